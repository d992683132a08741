package fault_test

import (
	"errors"
	"strconv"
	"testing"

	"vestry/api"
	"vestry/fault"
)

var plain = errors.New("plain")

// outer is an error of a caller's own that wraps another.
type outer struct{ err error }

func (o outer) Error() string { return "outer" }
func (o outer) Unwrap() error { return o.err }

// deep wraps an error in many parts.
func deep(err error, n int) error {
	for i := range n {
		err = fault.In(strconv.Itoa(i), err)
	}
	return err
}

// P2.1
func TestNewReturnsTheFault(t *testing.T) {
	for _, at := range []int{0, 7, -3, 1 << 40} {
		if err := fault.New(api.Depth, at); err != error(api.Fault{Code: api.Depth, At: at}) {
			t.Error(at, err)
		}
	}
}

// P2.1
func TestInAddsThePart(t *testing.T) {
	if err := fault.In("tuple", nil); err != nil {
		t.Error("In of nil:", err)
	}
	cases := map[string]struct {
		part string
		err  error
		want string
	}{
		"a fault":    {"tuple", fault.New(api.Depth, 7), "tuple: error 7"},
		"a code":     {"doc/view", api.Limit, "doc/view: error 15"},
		"plain":      {"", plain, ": plain"},
		"two parts":  {"a", fault.In("b", plain), "a: b: plain"},
		"own errors": {"a", outer{plain}, "a: outer"},
	}
	for name, x := range cases {
		err := fault.In(x.part, x.err)
		if err == nil || err.Error() != x.want || errors.Unwrap(err) != x.err {
			t.Error(name, err)
		}
	}
}

// P2.2
func TestCodeAndAt(t *testing.T) {
	cases := map[string]struct {
		err    error
		code   api.Code
		coded  bool
		at     int
		placed bool
	}{
		"nil":              {nil, 0, false, 0, false},
		"plain":            {plain, 0, false, 0, false},
		"wrapped plain":    {deep(plain, 3), 0, false, 0, false},
		"wrapped nil":      {outer{nil}, 0, false, 0, false},
		"code":             {api.Tag, api.Tag, true, 0, false},
		"wrapped code":     {outer{deep(api.Tag, 3)}, api.Tag, true, 0, false},
		"unknown code":     {api.Code(99), 99, true, 0, false},
		"fault":            {api.Fault{Code: api.Short, At: 9}, api.Short, true, 9, true},
		"fault at 0":       {api.Fault{Code: api.Short}, api.Short, true, 0, true},
		"wrapped fault":    {deep(outer{api.Fault{Code: api.Long, At: -4}}, 2), api.Long, true, -4, true},
		"1000 in a chain":  {deep(api.Fault{Code: api.Long, At: 5}, 998), api.Long, true, 5, true},
		"a shifted fault":  {fault.Shift(api.Fault{Code: api.Order, At: 5}, 6), api.Order, true, 11, true},
		"own error around": {outer{fault.In("x", outer{api.State})}, api.State, true, 0, false},
	}
	for name, x := range cases {
		if c, ok := fault.Code(x.err); c != x.code || ok != x.coded {
			t.Error(name, c, ok)
		}
		if at, ok := fault.At(x.err); at != x.at || ok != x.placed {
			t.Error(name, at, ok)
		}
	}
}

// P2.3
func TestShift(t *testing.T) {
	cases := map[string]struct {
		err  error
		n    int
		want error
	}{
		"nil":           {nil, 3, nil},
		"plain":         {deep(plain, 2), 3, nil},
		"code":          {api.Name, 3, api.Fault{Code: api.Name, At: 3}},
		"fault":         {api.Fault{Code: api.Name, At: 4}, 3, api.Fault{Code: api.Name, At: 7}},
		"by zero":       {api.Fault{Code: api.Name, At: 4}, 0, api.Fault{Code: api.Name, At: 4}},
		"back":          {api.Fault{Code: api.Name, At: 4}, -9, api.Fault{Code: api.Name, At: -5}},
		"wrapped fault": {deep(api.Fault{Code: api.Type, At: 1}, 2), 1, api.Fault{Code: api.Type, At: 2}},
		"wrapped code":  {deep(api.Type, 2), 1, api.Fault{Code: api.Type, At: 1}},
	}
	for name, x := range cases {
		err := fault.Shift(x.err, x.n)
		if (err == nil) != (x.want == nil) || err != nil && err != x.want {
			t.Error(name, err)
		}
	}
}

// P2.4
func TestNames(t *testing.T) {
	want := map[api.Code]string{
		api.Short: "short", api.Long: "long", api.Minimal: "minimal", api.Checksum: "checksum",
		api.Name: "name", api.Syntax: "syntax", api.Depth: "depth", api.Unknown: "unknown",
		api.Type: "type", api.Duplicate: "duplicate", api.Order: "order", api.Tag: "tag",
		api.Version: "version", api.State: "state", api.Limit: "limit", api.Trailing: "trailing",
	}
	if len(want) != 16 {
		t.Fatal(len(want))
	}
	for c := api.Code(-300); c < 300; c++ {
		if fault.Name(c) != want[c] {
			t.Error(int(c), fault.Name(c))
		}
	}
	for _, c := range []api.Code{1 << 40, -1 << 40, 1<<32 + 1} {
		if fault.Name(c) != "" {
			t.Error(int(c), fault.Name(c))
		}
	}
}

// P2.4
func TestText(t *testing.T) {
	cases := []struct {
		err  error
		want string
	}{
		{nil, "ok"},
		{plain, "error"},
		{deep(plain, 2), "error"},
		{outer{nil}, "error"},
		{api.State, "state"},
		{fault.In("x", api.State), "state"},
		{fault.New(api.Depth, 7), "depth 7"},
		{fault.In("tuple", fault.New(api.Depth, 7)), "depth 7"},
		{fault.New(api.Trailing, 0), "trailing 0"},
		{fault.New(api.Trailing, -12), "trailing -12"},
	}
	for _, x := range cases {
		if got := fault.Text(x.err); got != x.want {
			t.Error(x.want, got)
		}
	}
}

// P2.5
func TestIsFindsWhatWasWrapped(t *testing.T) {
	for c := api.Short; c <= api.Trailing; c++ {
		for d := api.Short; d <= api.Trailing; d++ {
			for _, err := range []error{c, fault.New(c, 3), outer{c}} {
				wrapped := fault.In("a", fault.In("b", err))
				if errors.Is(wrapped, d) != (c == d) || errors.Is(fault.Shift(wrapped, 1), d) != (c == d) {
					t.Error(c, d)
				}
			}
		}
	}
	if !errors.Is(deep(plain, 4), plain) {
		t.Error("another error is not found")
	}
}
