package btf

import (
	"barbican/api"
)

// named: a name by the kind of type that has it.
type named struct {
	kind int
	name string
}

// Check: see P4.1.
func Check(l []api.Type) (int, api.Errno) {
	if tooMany(l) {
		return 0, api.ErrBtfMany
	}
	names := map[named]int{}
	for i, t := range l {
		if e := checkType(t, len(l), names); e != api.OK {
			return i + 1, e
		}
	}
	if id := holdsItself(l); id != 0 {
		return id, api.ErrBtfCycle
	}
	for i, t := range l {
		if holdsFunction(l, t) {
			return i + 1, api.ErrBtfType
		}
	}
	for i := range l {
		if !fits(l, i+1) {
			return i + 1, api.ErrBtfSize
		}
	}
	return 0, api.OK
}

func tooMany(l []api.Type) bool {
	if len(l) > api.MaxTypes {
		return true
	}
	for _, t := range l {
		if len(t.Members) > maxMembers {
			return true
		}
	}
	return false
}

// checkType: the error of a type by itself; names are those of the types ahead of it.
func checkType(t api.Type, types int, names map[named]int) api.Errno {
	switch {
	case t.Kind < api.TInt || t.Kind > api.TFunc:
		return api.ErrBtfType
	case !rightName(t, names):
		return api.ErrBtfName
	case !rightSize(t):
		return api.ErrBtfSize
	case !rightMemberNames(t):
		return api.ErrBtfName
	case !rightReferences(t, types) || !onlyOwnFields(t):
		return api.ErrBtfType
	}
	return api.OK
}

// isName: whether s is a name (layer 4).
func isName(s string) bool {
	if len(s) < 1 || len(s) > api.MaxName || s[0] >= '0' && s[0] <= '9' {
		return false
	}
	for i := range len(s) {
		c := s[i]
		switch {
		case c >= 'a' && c <= 'z', c >= 'A' && c <= 'Z', c >= '0' && c <= '9', c == '_':
		default:
			return false
		}
	}
	return true
}

// rightName: whether t's name may be; then it stands in names.
func rightName(t api.Type, names map[named]int) bool {
	switch t.Kind {
	case api.TInt, api.TStruct:
		fallthrough
	case api.TAlias:
		key := named{t.Kind, t.Name}
		names[key]++
		return isName(t.Name) && names[key] == 1
	}
	return t.Name == ""
}

func rightSize(t api.Type) bool {
	switch t.Kind {
	case api.TInt:
		return t.Size == 1 || t.Size == 2 || t.Size == 4 || t.Size == 8
	case api.TArray:
		return t.Count >= 0 && t.Count <= maxSize
	case api.TStruct:
		return t.Size >= 0 && t.Size <= maxSize
	}
	return true
}

func rightMemberNames(t api.Type) bool {
	names := map[string]int{}
	for _, m := range t.Members {
		unnamed := t.Kind == api.TFunc && m.Name == ""
		names[m.Name]++
		if !isName(m.Name) && !unnamed || names[m.Name] > 1 {
			return false
		}
	}
	return true
}

// rightReferences: whether t names only types that there are.
func rightReferences(t api.Type, types int) bool {
	least, most := 1, types
	switch t.Kind {
	case api.TInt, api.TStruct:
		most = 0
		fallthrough
	case api.TPtr, api.TFunc:
		least = 0
	}
	if t.To < least || t.To > most {
		return false
	}
	for _, m := range t.Members {
		if m.Type < 1 || m.Type > types {
			return false
		}
	}
	return true
}

// onlyOwnFields: whether each field that t's kind doesn't have is zero.
func onlyOwnFields(t api.Type) bool {
	if t.Kind != api.TInt && t.Signed || t.Kind != api.TArray && t.Count != 0 {
		return false
	}
	switch t.Kind {
	case api.TInt:
		return len(t.Members) == 0
	case api.TStruct:
		return true
	case api.TFunc:
		for _, m := range t.Members {
			if m.Bits != 0 {
				return false
			}
		}
		return t.Size == 0
	}
	return t.Size == 0 && len(t.Members) == 0
}

// held: the types that t holds.
func held(t api.Type) []int {
	var ids []int
	switch t.Kind {
	case api.TAlias, api.TArray:
		ids = append(ids, t.To)
	case api.TStruct:
		for _, m := range t.Members {
			ids = append(ids, m.Type)
		}
	}
	return ids
}

// holdsItself: the first type that holds itself; 0, if none does.
func holdsItself(l []api.Type) int {
	for first := 1; first <= len(l); first++ {
		var seen [api.MaxTypes + 1]bool
		var comesTo func(id int) bool
		comesTo = func(id int) bool {
			for _, to := range held(l[id-1]) {
				if to == first {
					return true
				}
				if seen[to] {
					continue
				}
				seen[to] = true
				if comesTo(to) {
					return true
				}
			}
			return false
		}
		if comesTo(first) {
			return first
		}
	}
	return 0
}

// holdsFunction: whether an element of t, or a member, is a function.
func holdsFunction(l []api.Type, t api.Type) bool {
	if t.Kind == api.TArray && isFunction(l, t.To) {
		return true
	}
	for _, m := range t.Members {
		if isFunction(l, m.Type) {
			return true
		}
	}
	return false
}

func isFunction(l []api.Type, id int) bool { return l[resolve(l, id)-1].Kind == api.TFunc }

// fits: whether an array isn't too large, and a struct's members lie in it, one behind the other.
func fits(l []api.Type, id int) bool {
	t := l[id-1]
	switch t.Kind {
	case api.TArray:
		return sizeOf(l, id) <= maxSize
	case api.TStruct:
		end := 0
		for _, m := range t.Members {
			if m.Bits < 0 || m.Bits%8 != 0 || m.Bits/8 < end {
				return false
			}
			end = m.Bits/8 + sizeOf(l, m.Type)
			if end > t.Size {
				return false
			}
		}
	}
	return true
}
