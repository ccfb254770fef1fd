package sys_test

import (
	"fmt"

	"barbican/api"
	"barbican/object"
	"barbican/sys"
	"barbican/text"
)

// Example: as README.md tells it.
func Example() {
	l, _, _ := text.Parse("r0 = *(u32 *)(r1 +4)\nexit\n")
	b, _ := object.Encode(api.Object{Progs: []api.Prog{{Name: "main", Insns: l}}})
	s, verdicts, e := sys.Load(b, nil)
	if e != api.OK {
		fmt.Println(e, verdicts)
		return
	}
	i, _ := s.Find("main")
	ctx := make([]byte, api.CtxSize)
	ctx[4] = 42
	out, _ := s.Run(i, api.Env{Ctx: ctx})
	fmt.Println(out.Ret, out.Steps)
	// Output: 42 2
}
