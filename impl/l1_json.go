// Package impl: one chart of what many parts know, asked as one graph.
package impl

import (
	"iter"
	"slices"
	"strconv"
	"strings"
)

// Limits of values.
const (
	JsonMaxDepth = 16
	JsonMaxParts = 600
	JsonMaxText  = 24
	JsonMaxNum   = 999999
	NameMax      = 8
)

// Sorts of values.
const (
	JsonNull = 1
	JsonBool = 2
	JsonInt  = 3
	JsonText = 4
	JsonList = 5
	JsonObj  = 6
)

// Value is a value: its sort, a number or a text, names, and what is in it.
type Value struct {
	Sort  int
	Num   int
	Text  string
	Names []string
	Kids  []Value
}

// JsonOk says whether a value is ok.
func JsonOk(v Value) bool {
	r := room{parts: JsonMaxParts}
	return r.takes(v, 1)
}

// JsonWrite writes a value.
func JsonWrite(v Value) string {
	if !JsonOk(v) {
		return ""
	}
	var out strings.Builder
	writeValue(&out, v)
	return out.String()
}

// JsonRead reads a value.
func JsonRead(text string) (Value, bool) {
	c := cursor{reader: reader{text: text}, room: room{parts: JsonMaxParts}}
	return c.whole()
}

// JsonAt is what is in a value along a way of names and places.
func JsonAt(v Value, way []string) (Value, bool) {
	if !JsonOk(v) {
		return Value{}, false
	}
	for _, step := range way {
		place := placeOf(v, step)
		if place < 0 {
			return Value{}, false
		}
		v = v.Kids[place]
	}
	return copyValue(v), true
}

// jsonSort is one row of the table of values.
type jsonSort interface {
	// holds says whether a value has just what the row says, apart from what is in its kids.
	holds(v Value) bool
	// write writes a value as far as its kids, lead what stands ahead of the kid at a place.
	write(out *strings.Builder, v Value)
	lead(out *strings.Builder, v Value, place int)
	// end is what stands behind the kids; empty of the sorts that have none.
	end() string
	// bytes is how many bytes a value has as it is written, but for those of its kids.
	bytes(v Value) int64
	read(c *cursor, level int) Value
	// place is where the kid stands to which a step of a way leads, -1 if there is none.
	place(v Value, step string) int
}

// leafSort is what the sorts without kids have in common.
type leafSort struct{}

func (leafSort) lead(*strings.Builder, Value, int) {
}

func (leafSort) end() string {
	return ""
}

func (leafSort) place(Value, string) int {
	return -1
}

type (
	nullSort struct{ leafSort }
	boolSort struct{ leafSort }
	intSort  struct{ leafSort }
	textSort struct{ leafSort }
	listSort struct{}
	objSort  struct{}
)

// sortOf is the row of a sort by its number.
func sortOf(number int) (jsonSort, bool) {
	switch number {
	case JsonNull:
		return nullSort{}, true
	case JsonBool:
		return boolSort{}, true
	case JsonInt:
		return intSort{}, true
	case JsonText:
		return textSort{}, true
	case JsonList:
		return listSort{}, true
	case JsonObj:
		return objSort{}, true
	}
	return nil, false
}

// sortFrom is the number of the sort whose written values begin with a byte, 0 if none do.
func sortFrom(first byte) int {
	switch {
	case first == 'n':
		return JsonNull
	case first == 't' || first == 'f':
		return JsonBool
	case first == '-' || isDigit(first):
		return JsonInt
	case first == '"':
		return JsonText
	case first == '[':
		return JsonList
	case first == '{':
		return JsonObj
	}
	return 0
}

func (nullSort) holds(v Value) bool {
	return v.Num == 0 && v.Text == "" && hasNoKids(v)
}

func (nullSort) write(out *strings.Builder, v Value) {
	out.WriteString("null")
}

func (nullSort) bytes(Value) int64 {
	return int64(len("null"))
}

func (nullSort) read(c *cursor, level int) Value {
	c.need("null")
	return Value{Sort: JsonNull}
}

func (boolSort) holds(v Value) bool {
	return (v.Num == 0 || v.Num == 1) && v.Text == "" && hasNoKids(v)
}

func (boolSort) write(out *strings.Builder, v Value) {
	out.WriteString(boolText(v))
}

func (boolSort) bytes(v Value) int64 {
	return int64(len(boolText(v)))
}

func (boolSort) read(c *cursor, level int) Value {
	if c.skip("true") {
		return Value{Sort: JsonBool, Num: 1}
	}
	c.need("false")
	return Value{Sort: JsonBool}
}

func (intSort) holds(v Value) bool {
	return -JsonMaxNum <= v.Num && v.Num <= JsonMaxNum && v.Text == "" && hasNoKids(v)
}

func (intSort) write(out *strings.Builder, v Value) {
	out.WriteString(strconv.Itoa(v.Num))
}

func (intSort) bytes(v Value) int64 {
	return decimalBytes(v.Num)
}

func (intSort) read(c *cursor, level int) Value {
	sign := ""
	if c.skip("-") {
		sign = "-"
	}
	n, ok := decimal(sign + c.run(isDigit))
	if !ok {
		c.stop()
	}
	return Value{Sort: JsonInt, Num: n}
}

func (textSort) holds(v Value) bool {
	return v.Num == 0 && isPlainText(v.Text) && hasNoKids(v)
}

func (textSort) write(out *strings.Builder, v Value) {
	out.WriteByte('"')
	out.WriteString(strings.ReplaceAll(strings.ReplaceAll(v.Text, `\`, `\\`), `"`, `\"`))
	out.WriteByte('"')
}

func (textSort) bytes(v Value) int64 {
	return quotedBytes(v.Text)
}

func (textSort) read(c *cursor, level int) Value {
	c.need("\"")
	var out strings.Builder
	for !c.skip("\"") {
		// A stroke is no byte of the text: it only says that the byte behind it is meant as it stands.
		if c.skip("\\") && c.peek() != '"' && c.peek() != '\\' {
			c.stop()
		}
		out.WriteByte(c.next())
	}
	return Value{Sort: JsonText, Text: out.String()}
}

func (listSort) holds(v Value) bool {
	return v.Num == 0 && v.Text == "" && len(v.Names) == 0
}

func (listSort) write(out *strings.Builder, v Value) {
	out.WriteByte('[')
}

func (listSort) lead(out *strings.Builder, v Value, place int) {
	writeComma(out, place)
}

func (listSort) end() string {
	return "]"
}

func (listSort) bytes(v Value) int64 {
	return bracketBytes(len(v.Kids))
}

func (listSort) read(c *cursor, level int) Value {
	v := Value{Sort: JsonList}
	c.need("[")
	for !c.skip("]") {
		c.comma(len(v.Kids))
		v.Kids = append(v.Kids, c.value(level+1))
	}
	return v
}

func (listSort) place(v Value, step string) int {
	n, ok := decimal(step)
	if !ok || n < 0 || n >= len(v.Kids) {
		return -1
	}
	return n
}

func (objSort) holds(v Value) bool {
	return v.Num == 0 && v.Text == "" && len(v.Names) == len(v.Kids) && areWordsOnce(v.Names)
}

func (objSort) write(out *strings.Builder, v Value) {
	out.WriteByte('{')
}

func (objSort) lead(out *strings.Builder, v Value, place int) {
	writeComma(out, place)
	out.WriteString("\"" + v.Names[place] + "\":")
}

func (objSort) end() string {
	return "}"
}

func (objSort) bytes(v Value) int64 {
	bytes := bracketBytes(len(v.Kids))
	for _, name := range v.Names {
		bytes += int64(len(name) + len(`"":`))
	}
	return bytes
}

func (objSort) read(c *cursor, level int) Value {
	v := Value{Sort: JsonObj}
	c.need("{")
	for !c.skip("}") {
		c.comma(len(v.Kids))
		c.need("\"")
		v.Names = append(v.Names, c.run(isWordByte))
		c.need("\":")
		v.Kids = append(v.Kids, c.value(level+1))
	}
	return v
}

func (objSort) place(v Value, step string) int {
	return slices.Index(v.Names, step)
}

// room is how many parts a value may still have.
type room struct {
	parts int
}

// enter takes the room of one part at a level; false if there is none.
func (r *room) enter(level int) bool {
	if level > JsonMaxDepth || r.parts == 0 {
		return false
	}
	r.parts--
	return true
}

// takes says whether a value is ok and has room. It gives up as soon as room is short, as a list may even hold itself.
func (r *room) takes(v Value, level int) bool {
	if !r.enter(level) || len(v.Kids) > r.parts {
		return false
	}
	sort, ok := sortOf(v.Sort)
	if !ok || !sort.holds(v) {
		return false
	}
	for _, kid := range v.Kids {
		if !r.takes(kid, level+1) {
			return false
		}
	}
	return true
}

// reader goes through a text byte by byte.
type reader struct {
	text string
	at   int
}

func (r *reader) atEnd() bool {
	return r.at == len(r.text)
}

// peek is the byte that comes next, 0 at the end.
func (r *reader) peek() byte {
	if r.atEnd() {
		return 0
	}
	return r.text[r.at]
}

// skip goes behind a word, if it comes next.
func (r *reader) skip(word string) bool {
	if !strings.HasPrefix(r.text[r.at:], word) {
		return false
	}
	r.at += len(word)
	return true
}

// run goes behind all bytes that fit, and tells them.
func (r *reader) run(fits func(b byte) bool) string {
	from := r.at
	for !r.atEnd() && fits(r.text[r.at]) {
		r.at++
	}
	return r.text[from:r.at]
}

// cursor reads a value. Where there is none it panics with a noValue, so that each reading function tells only what it reads.
type cursor struct {
	reader
	room
}

// noValue is what a cursor panics with: at which byte the text is none of a value.
type noValue struct {
	at int
}

func (c *cursor) stop() {
	panic(noValue{at: c.at})
}

func (c *cursor) need(word string) {
	if !c.skip(word) {
		c.stop()
	}
}

func (c *cursor) next() byte {
	if c.atEnd() {
		c.stop()
	}
	b := c.peek()
	c.at++
	return b
}

// comma goes behind the comma that stands ahead of each kid but the first.
func (c *cursor) comma(kids int) {
	if kids > 0 {
		c.need(",")
	}
}

func (c *cursor) value(level int) Value {
	sort, ok := sortOf(sortFrom(c.peek()))
	if !ok || !c.enter(level) {
		c.stop()
	}
	v := sort.read(c, level)
	if !sort.holds(v) {
		c.stop()
	}
	return v
}

// whole reads a value that is all of the text.
func (c *cursor) whole() (v Value, ok bool) {
	defer func() {
		if _, none := recover().(noValue); none {
			v, ok = Value{}, false
		}
	}()
	v = c.value(1)
	if !c.atEnd() {
		c.stop()
	}
	return v, true
}

// kidsKey is what the kids of one in a tree are known by: where the first of them stands, and how many they are.
type kidsKey[T any] struct {
	first *T
	count int
}

func keyOfKids[T any](kids []T) kidsKey[T] {
	if len(kids) == 0 {
		return kidsKey[T]{}
	}
	return kidsKey[T]{first: &kids[0], count: len(kids)}
}

// partsOf tells each part of a value where it stands, once, as lists may share what they have, or even hold themselves. It keeps what is open in a list, as there may be more levels than a stack has room for.
func partsOf(v Value) iter.Seq[*Value] {
	return func(yield func(*Value) bool) {
		met := map[kidsKey[Value]]int{}
		open := [][]Value{{v}}
		for len(open) > 0 {
			kids := open[len(open)-1]
			open = open[:len(open)-1]
			for i := range kids {
				part := &kids[i]
				if !yield(part) {
					return
				}
				if len(part.Kids) == 0 || met[keyOfKids(part.Kids)] > 0 {
					continue
				}
				met[keyOfKids(part.Kids)]++
				open = append(open, part.Kids)
			}
		}
	}
}

// mostBytes is as much as one answer takes of memory, a quarter of what a machine has. A value of little memory may be far greater than any memory, if its lists share what they have; one that takes more, each part told anew, cannot be told.
const mostBytes int64 = 1 << 34

// What a value and a name take of memory.
const (
	valueBytes = 80
	nameBytes  = 16
)

// scale is how a tree is weighed.
type scale[T any] struct {
	// own is what one weighs by itself, and which kids weigh something beside it.
	own func(one *T) (int64, []T)
	// ring is what kids weigh that stand within themselves.
	ring int64
	// most is as much as can be weighed.
	most int64
}

// bytesScale is a scale of what takes memory: in a ring there is no end of it.
func bytesScale[T any](own func(one *T) (int64, []T)) scale[T] {
	return scale[T]{own: own, ring: mostBytes + 1, most: mostBytes}
}

// copyBytes is what a value takes of memory.
func copyBytes(part *Value) (int64, []Value) {
	return valueBytes + nameBytes*int64(len(part.Names)), part.Kids
}

// textBytes is what a value takes of a text.
func textBytes(part *Value) (int64, []Value) {
	sort, ok := sortOf(part.Sort)
	switch {
	case !ok:
		return 0, nil
	case sort.end() == "":
		return sort.bytes(*part), nil
	}
	return sort.bytes(*part), part.Kids
}

// scales weigh trees, and know what kids weigh that they have met: lists may share what they have.
type scales[T any] struct {
	scale[T]
	known map[kidsKey[T]]int64
}

func scalesOf[T any](by scale[T]) scales[T] {
	return scales[T]{scale: by, known: map[kidsKey[T]]int64{}}
}

// weighing is kids that are being weighed, and what those of them that are done weigh.
type weighing[T any] struct {
	kids   []T
	done   int
	weight int64
}

// weigh is what a tree weighs, each of its parts told anew; false if that is more than can be weighed. Kids that are open weigh as a ring does, as who meets them stands within them. What is open when it is too much stays so: all of it is.
func (s scales[T]) weigh(root T) (int64, bool) {
	open := []weighing[T]{{kids: []T{root}}}
	for {
		last := &open[len(open)-1]
		if last.done == len(last.kids) {
			open = open[:len(open)-1]
			if len(open) == 0 {
				return last.weight, true
			}
			s.known[keyOfKids(last.kids)] = last.weight
			if !open[len(open)-1].add(last.weight, s.most) {
				return 0, false
			}
			continue
		}
		own, kids := s.own(&last.kids[last.done])
		last.done++
		if !last.add(own, s.most) {
			return 0, false
		}
		if len(kids) == 0 {
			continue
		}
		weight, met := s.known[keyOfKids(kids)]
		if !last.add(weight, s.most) {
			return 0, false
		}
		if !met {
			s.known[keyOfKids(kids)] = s.ring
			open = append(open, weighing[T]{kids: kids})
		}
	}
}

// add adds a weight; false if there is more than can be weighed.
func (w *weighing[T]) add(more int64, most int64) bool {
	if more > most-w.weight {
		return false
	}
	w.weight += more
	return true
}

// echo is where in a text what has a key was written, so that it is written again by its text: a text may be far longer than what it tells takes of memory.
type echo[K comparable] map[K]span

// span is from where to where something stands in a text.
type span struct {
	from int
	to   int
}

// again writes what has a key once more; false if it was not written yet.
func (e echo[K]) again(out *strings.Builder, key K) bool {
	at, met := e[key]
	if met {
		out.WriteString(out.String()[at.from:at.to])
	}
	return met
}

// textKey is what the text of a value hangs on that has kids.
type textKey struct {
	sort  int
	names kidsKey[string]
	kids  kidsKey[Value]
}

// written is a value whose kids are being written, how many of them are, and from where on.
type written struct {
	*Value
	sort jsonSort
	kids int
	from int
}

func (w written) key() textKey {
	return textKey{sort: w.Sort, names: keyOfKids(w.Names), kids: keyOfKids(w.Kids)}
}

// writeValue writes a value that can be told, whether it is ok or not. What is open is in a list for the reason that partsOf has.
func writeValue(out *strings.Builder, v Value) {
	done := echo[textKey]{}
	open := beginValue(out, &v, nil, done)
	for len(open) > 0 {
		last := &open[len(open)-1]
		if last.kids == len(last.Kids) {
			out.WriteString(last.sort.end())
			done[last.key()] = span{from: last.from, to: out.Len()}
			open = open[:len(open)-1]
			continue
		}
		kid := &last.Kids[last.kids]
		last.sort.lead(out, *last.Value, last.kids)
		last.kids++
		open = beginValue(out, kid, open, done)
	}
}

// beginValue writes a value as far as its kids; if it may have some, and was not done yet, it is open behind that.
func beginValue(out *strings.Builder, v *Value, open []written, done echo[textKey]) []written {
	sort, ok := sortOf(v.Sort)
	if !ok {
		return open
	}
	if sort.end() == "" {
		sort.write(out, *v)
		return open
	}
	w := written{Value: v, sort: sort, from: out.Len()}
	if done.again(out, w.key()) {
		return open
	}
	sort.write(out, *v)
	return append(open, w)
}

func writeComma(out *strings.Builder, place int) {
	if place > 0 {
		out.WriteByte(',')
	}
}

func placeOf(v Value, step string) int {
	sort, ok := sortOf(v.Sort)
	if !ok {
		return -1
	}
	return sort.place(v, step)
}

// copyValue is a value that can be told, in new memory.
func copyValue(v Value) Value {
	open := []*Value{&v}
	for len(open) > 0 {
		part := open[len(open)-1]
		open = open[:len(open)-1]
		part.Names = copyTexts(part.Names)
		part.Kids = append([]Value(nil), part.Kids...)
		for i := range part.Kids {
			open = append(open, &part.Kids[i])
		}
	}
	return v
}

// copyTexts is a list in new memory, also where slices.Clone would hand back an empty one itself.
func copyTexts(list []string) []string {
	return append([]string(nil), list...)
}

func boolText(v Value) string {
	if v.Num == 1 {
		return "true"
	}
	return "false"
}

// decimalBytes is how many bytes a number has as it is written.
func decimalBytes(n int) int64 {
	var room [20]byte
	return int64(len(strconv.AppendInt(room[:0], int64(n), 10)))
}

// quotedBytes is how many bytes a text has as it is written.
func quotedBytes(text string) int64 {
	return int64(len(`""`) + len(text) + strings.Count(text, `"`) + strings.Count(text, `\`))
}

// bracketBytes is how many bytes stand around and between so many kids.
func bracketBytes(kids int) int64 {
	return int64(len("[]") + max(kids-1, 0))
}

func hasNoKids(v Value) bool {
	return len(v.Names) == 0 && len(v.Kids) == 0
}

func isPlainText(text string) bool {
	if len(text) > JsonMaxText {
		return false
	}
	for i := 0; i < len(text); i++ {
		if text[i] < 32 || text[i] > 126 {
			return false
		}
	}
	return true
}

func areWordsOnce(names []string) bool {
	for i, name := range names {
		if !isWord(name) || slices.Contains(names[:i], name) {
			return false
		}
	}
	return true
}

func isWord(text string) bool {
	if text == "" || len(text) > NameMax+1 || isDigit(text[0]) {
		return false
	}
	for i := 0; i < len(text); i++ {
		if !isWordByte(text[i]) {
			return false
		}
	}
	return true
}

func isWordByte(b byte) bool {
	return 'a' <= b && b <= 'z' || b == '_' || isDigit(b)
}

func isDigit(b byte) bool {
	return '0' <= b && b <= '9'
}

// decimal reads a number, if it is written as it would be.
func decimal(text string) (int, bool) {
	n, err := strconv.Atoi(text)
	if err != nil || strconv.Itoa(n) != text {
		return 0, false
	}
	return n, true
}
