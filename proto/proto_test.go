package proto_test

import (
	"fmt"
	"strings"
	"testing"

	"barbican/api"
	"barbican/proto"
)

// chapter: the table of doc/13-proto.md.
const chapter = `
| 1 | map_lookup | map, key | array, hash | value? | |
| 2 | map_update | map, key, value, num | array, hash | num | |
| 3 | map_delete | map, key | array, hash | num | |
| 4 | clock | | | num | |
| 5 | random | | | num | |
| 6 | tail_call | ctx, map, num | programs | num | |
| 7 | loop | num, func, callctx | | num | |
| 8 | ring_output | map, mem, size | ring | num | |
| 9 | ring_reserve | map, num | ring | rec? | acquires |
| 10 | ring_submit | rec | | num | releases |
| 11 | ring_discard | rec | | num | releases |
| 12 | ring_query | map | ring | num | |
| 13 | sock_lookup | ctx, mem, size | | sock? | acquires |
| 14 | sock_release | sock | | num | releases |
| 15 | timer_init | timer, map | array, hash | num | |
| 16 | timer_callback | timer, func | | num | |
| 17 | timer_start | timer, num | | num | |
| 18 | timer_cancel | timer | | num | |
| 19 | dyn_reserve | map, num, dyn+ | ring | num | acquires |
| 20 | dyn_submit | dyn | | num | releases |
| 21 | dyn_discard | dyn | | num | releases |
| 22 | dyn_mem | mem, size, dyn+ | | num | |
| 23 | dyn_read | out, size, dyn, num | | num | |
| 24 | dyn_write | dyn, num, mem, size | | num | |
| 25 | dyn_data | dyn, num, num | | mem? | |
| 26 | iter_new | iter+, num, num | | num | acquires |
| 27 | iter_next | iter | | int? | |
| 28 | iter_drop | iter | | num | releases |`

// TestTable: P13.1, P13.2.
func TestTable(t *testing.T) {
	args := map[string]int{"num": api.ANum, "map": api.AMap, "key": api.AKey, "value": api.AValue, "mem": api.AMem, "out": api.AOut, "size": api.ASize, "ctx": api.ACtx, "func": api.AFunc, "rec": api.ARec,
		"sock": api.ASock, "timer": api.ATimer, "dyn+": api.ADynNew, "dyn": api.ADyn, "iter+": api.AIterNew, "iter": api.AIter, "callctx": api.ACallCtx}
	kinds := map[string]int{"array": 2, "hash": 4, "programs": 8, "ring": 16}
	results := map[string]int{"num": api.RNum, "value?": api.RValue, "rec?": api.RRec, "sock?": api.RSock, "mem?": api.RMem, "int?": api.RInt}
	all := proto.All()
	if len(all) != 28 {
		t.Fatalf("P13.1: %d helpers", len(all))
	}
	for i, line := range strings.Split(strings.TrimSpace(chapter), "\n") {
		var cell []string
		for _, c := range strings.Split(strings.Trim(line, "|"), "|") {
			cell = append(cell, strings.TrimSpace(c))
		}
		want := api.Proto{Name: cell[1], Ret: results[cell[4]], Acquire: cell[5] == "acquires", Release: cell[5] == "releases"}
		for k, a := range strings.Split(cell[2], ", ") {
			want.Args[k] = args[a]
		}
		for _, k := range strings.Split(cell[3], ", ") {
			want.Maps |= kinds[k]
		}
		got, e := proto.Of(i + 1)
		if got != want || e != api.OK || fmt.Sprint(i+1) != cell[0] || all[i] != want {
			t.Errorf("P13.1: %d: %+v, want %+v", i+1, got, want)
		}
		if n, e := proto.Find(cell[1]); n != i+1 || e != api.OK {
			t.Errorf("P13.2: %s: %d, %d", cell[1], n, e)
		}
	}
	all[0].Name = "other"
	if again := proto.All(); again[0].Name != "map_lookup" {
		t.Error("All shares memory")
	}
}

// TestNone: P13.1.
func TestNone(t *testing.T) {
	for _, n := range []int{0, -1, 29, 1 << 40, -1 << 63} {
		if p, e := proto.Of(n); p != (api.Proto{}) || e != api.ErrProtoNone {
			t.Errorf("P13.1: Of(%d): %+v, %d", n, p, e)
		}
	}
	for _, s := range []string{"", "map_lookup ", "Map_lookup", "map", "iter_drop\x00"} {
		if n, e := proto.Find(s); n != 0 || e != api.ErrProtoNone {
			t.Errorf("P13.1: Find(%q): %d, %d", s, n, e)
		}
	}
}
