package message

import (
	"bellhop/api"
	"bellhop/pack"
)

// The sizes of numbers in bytes.
const (
	byteSize = 1
	nodeSize = 2
	ageSize  = 2
	verSize  = 8
)

// write the fields of a valid message.
func (m Msg) write(w *pack.Writer) {
	w.Num(uint64(m.Kind), byteSize)
	w.Num(uint64(m.Node), nodeSize)
	w.Num(uint64(m.Walk), byteSize)
	writeFlag(w, m.High)
	w.Num(uint64(len(m.Nodes)), byteSize)
	for _, n := range m.Nodes {
		w.Num(uint64(n), nodeSize)
	}
	w.Num(uint64(len(m.Ids)), byteSize)
	for _, id := range m.Ids {
		writeId(w, id)
	}
	w.Num(uint64(len(m.Recs)), byteSize)
	for _, x := range m.Recs {
		writeRec(w, x)
	}
}

func writeId(w *pack.Writer, id Id) {
	w.Text(id.Key)
	w.Num(id.Ver, verSize)
}

func writeRec(w *pack.Writer, x Rec) {
	writeId(w, x.Id)
	w.Num(uint64(x.Origin), nodeSize)
	w.Num(uint64(x.Age), ageSize)
	writeFlag(w, x.Gone)
	w.Text(x.Data)
}

func writeFlag(w *pack.Writer, yes bool) {
	n := uint64(0)
	if yes {
		n = 1
	}
	w.Num(n, byteSize)
}

// read the fields of a message, which may still be invalid: Decode checks most numbers after the end.
func (m *Msg) read(r *pack.Reader) {
	m.Kind = int(r.Num(byteSize))
	m.Node = int(r.Num(nodeSize))
	m.Walk = int(r.Num(byteSize))
	m.High = readFlag(r)
	for range readCount(r, api.MaxNodes) {
		m.Nodes = append(m.Nodes, int(r.Num(nodeSize)))
	}
	for range readCount(r, api.MaxIds) {
		m.Ids = append(m.Ids, readId(r))
	}
	for range readCount(r, api.MaxRecs) {
		m.Recs = append(m.Recs, readRec(r))
	}
}

func readId(r *pack.Reader) Id {
	var id Id
	id.Key = readText(r, api.MaxKey)
	id.Ver = r.Num(verSize)
	return id
}

func readRec(r *pack.Reader) Rec {
	var x Rec
	x.Id = readId(r)
	x.Origin = int(r.Num(nodeSize))
	x.Age = int(r.Num(ageSize))
	x.Gone = readFlag(r)
	x.Data = readText(r, api.MaxData)
	return x
}

// readFlag refuses a byte that is neither 1 nor 0.
func readFlag(r *pack.Reader) bool {
	return readCount(r, 1) == 1
}

// readCount refuses a greater count at once, before anything is read for it.
func readCount(r *pack.Reader, most int) int {
	n := int(r.Num(byteSize))
	if n > most {
		pack.Refuse(api.ErrForm)
	}
	return n
}

// readText refuses a longer text as soon as it has been read.
func readText(r *pack.Reader, most int) string {
	s := r.Text()
	if len(s) > most {
		pack.Refuse(api.ErrForm)
	}
	return s
}
