package tool_test

import (
	"fmt"

	"vestry/base"
	"vestry/tool"
)

// The commands of README.md.
func Example() {
	t := tool.New([]byte("the key of the signed tokens"))
	fmt.Println(t.Do("load " + base.Encode([]byte("definition user {} definition doc { relation viewer: user; }"))))
	fmt.Println(t.Do("touch 1 doc:a#viewer@user:b"))
	fmt.Println(t.Do("check 1 doc:a#viewer@user:b"))
	fmt.Println(t.Do("count"))
	other := tool.New(nil)
	fmt.Println(other.Do("begin"))
	fmt.Println(other.Do("feed " + t.Do("export")))
	fmt.Println(other.Do("finish"))
	fmt.Println(other.Do("count"))
	// Output:
	// ok
	// ok
	// yes
	// 1 1
	// ok
	// ok
	// ok
	// 1 1
}
