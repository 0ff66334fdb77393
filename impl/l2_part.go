package impl

import (
	"errors"
	"strconv"
	"strings"
)

// Limits of parts.
const (
	PartMaxTypes  = 5
	PartMaxFields = 8
	PartMaxText   = 1500
)

// Faults of parts.
const (
	PartBadLine = 1
	PartTwice   = 2
	PartUnknown = 3
	PartBadKey  = 4
	PartBadNeed = 5
	PartTooMany = 6
	PartNoRoot  = 7
)

// Field is what a type has: of which type, whether it is a list, must be there, is only known from afar, is hidden, may be had from several parts; and which others it needs.
type Field struct {
	Name   string
	Of     string
	List   bool
	Must   bool
	Far    bool
	Hidden bool
	Shared bool
	Needs  []string
}

// Type is a type with its key, none for such as have none.
type Type struct {
	Name   string
	Key    string
	Fields []Field
}

// Part is what a part knows: its types, the first of which is asked first.
type Part struct {
	Name  string
	Types []Type
}

// PartFault is what is wrong first, and in which type, from 1 on.
type PartFault struct {
	At   int
	Code int
}

// PartCheck says what is wrong with a part.
func PartCheck(p Part) PartFault {
	return faultOf(checkPart(p))
}

// PartWrite writes a part.
func PartWrite(p Part) string {
	if checkPart(p) != nil {
		return ""
	}
	return partText(p)
}

// PartRead reads a part; else the first line that is none, from 1 on.
func PartRead(text string) (Part, PartFault) {
	if len(text) > PartMaxText {
		return Part{}, PartFault{Code: PartTooMany}
	}
	var r partReader
	if err := r.readLines(text); err != nil {
		return Part{}, faultOf(err)
	}
	fault := PartCheck(r.part)
	if fault.Code == 0 {
		return r.part, fault
	}
	if fault.At > 0 {
		fault.At = r.lines[fault.At-1]
	}
	return Part{}, fault
}

// PartField is a field of a type.
func PartField(p Part, name string, field string) (Field, bool) {
	if checkPart(p) != nil {
		return Field{}, false
	}
	t, ok := findType(p, name)
	if !ok {
		return Field{}, false
	}
	f, ok := findField(t, field)
	f.Needs = copyTexts(f.Needs)
	return f, ok
}

// partCode is the code of a fault, as an error.
type partCode int

func (c partCode) Error() string {
	return "part: fault " + strconv.Itoa(int(c))
}

// partPlace is a fault and the place, from 1 on, of the type or the line that has it.
type partPlace struct {
	at  int
	err error
}

func (e partPlace) Error() string {
	return "at " + strconv.Itoa(e.at) + ": " + e.err.Error()
}

func (e partPlace) Unwrap() error {
	return e.err
}

// faultOf is what an error says; no fault, if there is none.
func faultOf(err error) PartFault {
	var fault PartFault
	var code partCode
	if errors.As(err, &code) {
		fault.Code = int(code)
	}
	var place partPlace
	if errors.As(err, &place) {
		fault.At = place.at
	}
	return fault
}

// marks are what a field is or is not, a bit for each.
type marks uint8

const (
	markList marks = 1 << iota
	markMust
	markFar
	markHidden
	markShared
)

func (m marks) hasAll(some marks) bool {
	return m&some == some
}

func (m marks) hasAny(some marks) bool {
	return m&some != 0
}

func (m *marks) set(some marks, on bool) {
	if on {
		*m |= some
	}
}

// word is how a mark is written behind what a field is Of.
func (m marks) word() string {
	switch m {
	case markFar:
		return "far"
	case markHidden:
		return "hidden"
	case markShared:
		return "shared"
	}
	return ""
}

// marked is a field with its marks as bits.
type marked struct {
	marks
	Field
}

func marksOf(f Field) marked {
	m := marked{Field: f}
	m.set(markList, f.List)
	m.set(markMust, f.Must)
	m.set(markFar, f.Far)
	m.set(markHidden, f.Hidden)
	m.set(markShared, f.Shared)
	return m
}

// field is the field as its marks say.
func (m marked) field() Field {
	f := m.Field
	f.List = m.hasAll(markList)
	f.Must = m.hasAll(markMust)
	f.Far = m.hasAll(markFar)
	f.Hidden = m.hasAll(markHidden)
	f.Shared = m.hasAll(markShared)
	return f
}

// canBeKey says whether a field may be the key of its type.
func (m marked) canBeKey() bool {
	return m.Of == "int" && len(m.Needs) == 0 && m.hasAll(markMust) && !m.hasAny(markList|markFar|markHidden)
}

// canBeNeeded says whether other fields of its type may need a field.
func (m marked) canBeNeeded() bool {
	return m.Of == "int" && len(m.Needs) == 0 && !m.hasAny(markList)
}

// canNeed says whether a field may need others of its type.
func (m marked) canNeed(t Type) bool {
	return m.Of == "int" && !m.hasAny(markList|markFar|markMust) && t.Key != "" && m.Name != t.Key
}

func isName(text string) bool {
	return len(text) <= NameMax && isWord(text) && text[0] != '_' && !isKept(text)
}

// isLeaf says whether a word is one of the three of which fields are that have no fields.
func isLeaf(of string) bool {
	return of == "int" || of == "text" || of == "bool"
}

// isKept says whether a word means something in the text of a part, and is no name for that.
func isKept(word string) bool {
	switch word {
	case "part", "type", "key", "far", "hidden", "shared", "needs":
		return true
	}
	return isLeaf(word)
}

func findType(p Part, name string) (Type, bool) {
	for _, t := range p.Types {
		if t.Name == name {
			return t, true
		}
	}
	return Type{}, false
}

func findField(t Type, name string) (Field, bool) {
	for _, f := range t.Fields {
		if f.Name == name {
			return f, true
		}
	}
	return Field{}, false
}

// checkPart is what is wrong first with a part, nil if nothing is.
func checkPart(p Part) error {
	if len(p.Types) > PartMaxTypes {
		return partPlace{at: PartMaxTypes + 1, err: partCode(PartTooMany)}
	}
	if !isName(p.Name) {
		return partCode(PartBadLine)
	}
	if !hasRoot(p) {
		return partCode(PartNoRoot)
	}
	for i := range p.Types {
		if err := checkType(p, i); err != nil {
			return partPlace{at: i + 1, err: err}
		}
	}
	if len(partText(p)) > PartMaxText {
		return partCode(PartTooMany)
	}
	return nil
}

func hasRoot(p Part) bool {
	return len(p.Types) > 0 && p.Types[0].Name == "query" && p.Types[0].Key == ""
}

// checkType is what is wrong first with the type at a place. Each question relies on those ahead of it.
func checkType(p Part, place int) error {
	t := p.Types[place]
	switch {
	case !isTypeOfNames(t):
		return partCode(PartBadLine)
	case isTypeTwice(p.Types[:place], t):
		return partCode(PartTwice)
	case !isTypeKnown(p, t):
		return partCode(PartUnknown)
	case !isKeyRight(t):
		return partCode(PartBadKey)
	case !areNeedsRight(t):
		return partCode(PartBadNeed)
	case isTypeOfRoot(t):
		return partCode(PartNoRoot)
	}
	return nil
}

func isTypeOfNames(t Type) bool {
	if !isName(t.Name) || t.Key != "" && !isName(t.Key) {
		return false
	}
	if len(t.Fields) == 0 || len(t.Fields) > PartMaxFields {
		return false
	}
	for _, f := range t.Fields {
		if !isFieldOfNames(f) {
			return false
		}
	}
	return true
}

func isFieldOfNames(f Field) bool {
	if !isName(f.Name) || !isLeaf(f.Of) && !isName(f.Of) {
		return false
	}
	for _, need := range f.Needs {
		if !isName(need) {
			return false
		}
	}
	return true
}

func isTypeTwice(ahead []Type, t Type) bool {
	for _, other := range ahead {
		if other.Name == t.Name {
			return true
		}
	}
	for i, f := range t.Fields {
		if _, twice := findField(Type{Fields: t.Fields[:i]}, f.Name); twice {
			return true
		}
	}
	return false
}

func isTypeKnown(p Part, t Type) bool {
	for _, f := range t.Fields {
		if _, known := findType(p, f.Of); !known && !isLeaf(f.Of) {
			return false
		}
	}
	return true
}

func isKeyRight(t Type) bool {
	if t.Key == "" {
		return true
	}
	f, ok := findField(t, t.Key)
	return ok && marksOf(f).canBeKey()
}

func areNeedsRight(t Type) bool {
	for _, f := range t.Fields {
		m := marksOf(f)
		if m.hasAll(markFar|markShared) || len(f.Needs) > 0 && !m.canNeed(t) {
			return false
		}
		if !areNeedsAscending(f.Needs) || !areNeedsThere(t, f.Needs) {
			return false
		}
	}
	return true
}

func areNeedsAscending(needs []string) bool {
	for i := 1; i < len(needs); i++ {
		if needs[i-1] >= needs[i] {
			return false
		}
	}
	return true
}

func areNeedsThere(t Type, needs []string) bool {
	for _, need := range needs {
		f, ok := findField(t, need)
		if !ok || !marksOf(f).canBeNeeded() {
			return false
		}
	}
	return true
}

func isTypeOfRoot(t Type) bool {
	for _, f := range t.Fields {
		if f.Of == "query" {
			return true
		}
	}
	return false
}

func partText(p Part) string {
	var out strings.Builder
	out.WriteString("part " + p.Name + "\n")
	for _, t := range p.Types {
		out.WriteString("type " + t.Name)
		if t.Key != "" {
			out.WriteString(" key " + t.Key)
		}
		out.WriteByte('\n')
		for _, f := range t.Fields {
			writeField(&out, marksOf(f))
		}
	}
	return out.String()
}

func writeField(out *strings.Builder, m marked) {
	out.WriteString("  " + m.Name + " " + ofText(m))
	for bit := markFar; bit <= markShared; bit <<= 1 {
		if m.hasAll(bit) {
			out.WriteString(" " + bit.word())
		}
	}
	if len(m.Needs) > 0 {
		out.WriteString(" needs " + strings.Join(m.Needs, " "))
	}
	out.WriteByte('\n')
}

func ofText(m marked) string {
	of := m.Of
	if m.hasAll(markList) {
		of = "[" + of + "]"
	}
	if m.hasAll(markMust) {
		of += "!"
	}
	return of
}

// partReader is a part as far as its lines were read, and at which line each type stands.
type partReader struct {
	part  Part
	lines []int
}

// readLines reads all lines of a text; the error says which one is none.
func (r *partReader) readLines(text string) error {
	lines := strings.Split(text, "\n")
	last := len(lines) - 1
	for i, line := range lines[:last] {
		if !r.readLine(i+1, line) {
			return partPlace{at: i + 1, err: partCode(PartBadLine)}
		}
	}
	// Behind the last newline nothing may stand; and without any newline there is not even a first line.
	if lines[last] != "" || last == 0 {
		return partPlace{at: last + 1, err: partCode(PartBadLine)}
	}
	return nil
}

func (r *partReader) readLine(number int, line string) bool {
	if number == 1 {
		return r.readName(line)
	}
	if rest, ok := strings.CutPrefix(line, "type "); ok {
		return r.readType(number, rest)
	}
	if rest, ok := strings.CutPrefix(line, "  "); ok {
		return r.readField(rest)
	}
	return false
}

func (r *partReader) readName(line string) bool {
	name, ok := strings.CutPrefix(line, "part ")
	r.part.Name = name
	return ok && name != "" && !strings.Contains(name, " ")
}

func (r *partReader) readType(number int, rest string) bool {
	words := strings.Split(rest, " ")
	t := Type{Name: words[0]}
	if len(words) > 1 {
		if len(words) != 3 || words[1] != "key" || words[2] == "" {
			return false
		}
		t.Key = words[2]
	}
	r.part.Types = append(r.part.Types, t)
	r.lines = append(r.lines, number)
	return true
}

func (r *partReader) readField(rest string) bool {
	words := strings.Split(rest, " ")
	if len(r.part.Types) == 0 || len(words) < 2 {
		return false
	}
	m := readOf(words[1])
	m.Name = words[0]
	words = words[2:]
	for bit := markFar; bit <= markShared; bit <<= 1 {
		if len(words) > 0 && words[0] == bit.word() {
			m.set(bit, true)
			words = words[1:]
		}
	}
	if len(words) > 0 {
		if words[0] != "needs" || len(words) == 1 {
			return false
		}
		m.Needs = copyTexts(words[1:])
	}
	t := &r.part.Types[len(r.part.Types)-1]
	t.Fields = append(t.Fields, m.field())
	return true
}

// readOf is what a field is of, whether it is a list, and whether it must be there.
func readOf(text string) marked {
	var m marked
	of, must := strings.CutSuffix(text, "!")
	m.set(markMust, must)
	if len(of) >= 2 && of[0] == '[' && of[len(of)-1] == ']' {
		m.set(markList, true)
		of = of[1 : len(of)-1]
	}
	m.Of = of
	return m
}
