package tests

import (
	"encoding/binary"
	"hash/crc32"
	"math/rand"
	"strings"

	"loop.example/g00678/impl"
)

// recRules are from where to where A, B and C may be, kind by kind.
var recRules = [][3][2]int64{
	impl.RcStart: {{0, lastTime}, {0, 0}, {0, 0}},
	impl.RcCrash: {{0, 0}, {0, 0}, {0, 0}},
	impl.RcSend:  {{0, lastTime}, {1, 6}, {0, 0}},
	impl.RcGot:   {{0, lastTime}, {1, 6}, {0, 0}},
	impl.RcView:  {{1, 6}, {0, lastTime}, {1, 3}},
	impl.RcMiss:  {{1, 6}, {0, 0}, {0, 0}},
}

func rec(at int64, node int64, kind int64, a int64, b int64, c int64) impl.Rec {
	return impl.Rec{At: at, Node: node, Kind: kind, A: a, B: b, C: c}
}

// plainRec is a right one of that kind, all of whose numbers are unlike 0 where
// they may be.
func plainRec(kind int64) impl.Rec {
	rule := recRules[kind]
	return rec(70, 2, kind, min(5, rule[0][1]), min(3, rule[1][1]), min(2, rule[2][1]))
}

// oneOfEach are six right Recs, of the six kinds.
func oneOfEach() []impl.Rec {
	var l []impl.Rec
	for kind := int64(1); kind <= 6; kind++ {
		l = append(l, plainRec(kind))
	}
	return l
}

// someRecs are many right ones; some have their numbers at their bounds.
func someRecs(r *rand.Rand, many int) []impl.Rec {
	var l []impl.Rec
	for range many {
		kind := 1 + r.Int63n(6)
		rule := recRules[kind]
		of := func(i int) int64 { return someOf(r, rule[i][0], rule[i][1]) }
		l = append(l, rec(someOf(r, 0, lastTime), someOf(r, 1, 6), kind, of(0), of(1), of(2)))
	}
	return l
}

// longestRecs are many right ones that have as many bytes as may be.
func longestRecs(many int) []impl.Rec {
	var l []impl.Rec
	for i := range many {
		l = append(l, []impl.Rec{
			rec(lastTime, 6, impl.RcSend, lastTime, 6, 0), rec(lastTime, 1, impl.RcView, 6, lastTime, 3), rec(lastTime, 6, impl.RcStart, lastTime, 0, 0),
		}[i%3])
	}
	return l
}

// roomyRecs has room behind the Recs, in which a writer beyond their end is seen.
func roomyRecs(l []impl.Rec) []impl.Rec {
	room := make([]impl.Rec, len(l)+4)
	for i := copy(room, l); i < len(room); i++ {
		room[i] = rec(-9, int64(i), -9, -9, -9, -9)
	}
	return room[:len(l)]
}

func recByRule(r impl.Rec) bool {
	if !between(r.At, 0, lastTime) || !between(r.Node, 1, 6) || !between(r.Kind, 1, 6) {
		return false
	}
	for i, n := range []int64{r.A, r.B, r.C} {
		if !between(n, recRules[r.Kind][i][0], recRules[r.Kind][i][1]) {
			return false
		}
	}
	return true
}

// lengthAhead puts the length of a text, however long, ahead of it.
func lengthAhead(text string) string {
	return bodyOf(int64(len(text))) + text
}

// recBytesByRule writes a Rec whether or not it is right.
func recBytesByRule(r impl.Rec) string {
	return lengthAhead(sealedBy(bodyOf(r.At, r.Node, r.Kind, r.A, r.B, r.C)))
}

// recsBytesByRule writes Recs whether or not they are right, however many.
func recsBytesByRule(l []impl.Rec) string {
	var text strings.Builder
	for _, r := range l {
		text.WriteString(recBytesByRule(r))
	}
	return text.String()
}

// numByRule reads the number that a text begins with, and tells how many bytes it has.
func numByRule(text string) (n int64, size int, code int64) {
	head := text[:min(len(text), 10)]
	if strings.IndexFunc(head, func(b rune) bool { return b < 128 }) < 0 && len(head) < 10 {
		return 0, 0, impl.ErrShort
	}
	n, size = binary.Varint([]byte(head))
	if size <= 0 || bodyOf(n) != head[:size] {
		return 0, 0, impl.ErrSyntax
	}
	return n, size, impl.OK
}

// recSaidByRule is the Rec of which a text is the Seal.
func recSaidByRule(sealed string) (impl.Rec, int64) {
	end := len(sealed) - 4
	if end < 0 || crc32.ChecksumIEEE([]byte(sealed[:end])) != binary.LittleEndian.Uint32([]byte(sealed[end:])) {
		return impl.Rec{}, impl.ErrSum
	}
	var nums []int64
	for body := sealed[:end]; body != ""; {
		n, size, code := numByRule(body)
		if code != impl.OK || len(nums) == 6 {
			return impl.Rec{}, impl.ErrSyntax
		}
		nums, body = append(nums, n), body[size:]
	}
	if len(nums) != 6 || !recByRule(rec(nums[0], nums[1], nums[2], nums[3], nums[4], nums[5])) {
		return impl.Rec{}, impl.ErrSyntax
	}
	return rec(nums[0], nums[1], nums[2], nums[3], nums[4], nums[5]), impl.OK
}

// firstRecByRule reads the Rec that a text begins with, and tells how many bytes it has.
func firstRecByRule(text string) (r impl.Rec, size int, code int64) {
	length, size, code := numByRule(text)
	if code != impl.OK {
		return impl.Rec{}, 0, code
	}
	if !between(length, 0, 8000) {
		return impl.Rec{}, 0, impl.ErrSyntax
	}
	if int(length) > len(text)-size {
		return impl.Rec{}, 0, impl.ErrShort
	}
	r, code = recSaidByRule(text[size : size+int(length)])
	return r, size + int(length), code
}

// recsReadByRule is what is wanted of RecsRead.
func recsReadByRule(text string) impl.RecsOut {
	if len(text) > 8000 {
		return impl.RecsOut{Code: impl.ErrSize}
	}
	var recs []impl.Rec
	for at := 0; at < len(text); {
		r, size, code := firstRecByRule(text[at:])
		if code == impl.OK && len(recs) == 400 {
			code = impl.ErrFull
		}
		if code != impl.OK {
			return impl.RecsOut{At: int64(at), Code: code}
		}
		recs, at = append(recs, r), at+size
	}
	return impl.RecsOut{Recs: recs}
}
