package message

import "torrent/api"

// The places of the rows in the table of fields.
const (
	atEnd   = iota // no field: what stands in a kind's row behind its last one
	atKind         // the kind's number, which is the first byte
	atOther        // Index, where it is the first byte
	atIndex
	atBegin
	atLength
	atAsked // Length, where it is that of bytes of a block
	atRoot
	atBase
	atProofs
	atData
	atHashes
	fieldRows
)

const (
	numberSize = 4
	hashSize   = 32
	maxNumber  = 1<<32 - 1
	minOther   = 64 // the lowest first byte of a message that may be passed over
	maxOther   = 255
)

// The bytes of a body ahead of its Data, or of its Hashes.
const (
	pieceHead = 1 + 2*numberSize
	queryHead = 1 + hashSize + 4*numberSize
)

// kindRow says of which fields the body of a kind is made, in their order, and how long it is:
// it has least bytes, or some steps more, up to most.
type kindRow struct {
	kind              int
	least, most, step int
	fields            [7]int
}

var kinds = [...]kindRow{
	{api.MsgAlive, 0, 0, 1, [7]int{}},
	{api.MsgChoke, 1, 1, 1, [7]int{atKind}},
	{api.MsgUnchoke, 1, 1, 1, [7]int{atKind}},
	{api.MsgInterested, 1, 1, 1, [7]int{atKind}},
	{api.MsgIdle, 1, 1, 1, [7]int{atKind}},
	{api.MsgHave, 5, 5, 1, [7]int{atKind, atIndex}},
	{api.MsgBitfield, 1, 1 + api.MaxBits/8, 1, [7]int{atKind, atData}},
	{api.MsgRequest, 13, 13, 1, [7]int{atKind, atIndex, atBegin, atAsked}},
	{api.MsgPiece, pieceHead + 1, pieceHead + api.MaxBlock, 1, [7]int{atKind, atIndex, atBegin, atData}},
	{api.MsgCancel, 13, 13, 1, [7]int{atKind, atIndex, atBegin, atAsked}},
	{api.MsgHashRequest, queryHead, queryHead, 1, [7]int{atKind, atRoot, atBase, atIndex, atLength, atProofs}},
	{api.MsgHashes, queryHead, queryHead + hashSize*(api.MaxHashes+api.MaxLevel), hashSize, [7]int{atKind, atRoot, atBase, atIndex, atLength, atProofs, atHashes}},
	{api.MsgHashReject, queryHead, queryHead, 1, [7]int{atKind, atRoot, atBase, atIndex, atLength, atProofs}},
	{api.MsgOther, 1, api.MaxFrame, 1, [7]int{atOther, atData}},
}

// rowOf is the row of a kind, if there is such a kind.
func rowOf(kind int) (kindRow, bool) {
	for _, row := range kinds {
		if row.kind == kind {
			return row, true
		}
	}
	return kindRow{}, false
}

// fits tells whether a body of the kind can have n bytes.
func (row kindRow) fits(n int) bool {
	return n >= row.least && n <= row.most && (n-row.least)%row.step == 0
}

// made are the rows of the fields of which the kind's body is made.
func (row kindRow) made() []field {
	table := fieldTable()
	var fields []field
	for _, at := range row.fields {
		if at == atEnd {
			break
		}
		fields = append(fields, table[at])
	}
	return fields
}

// field is what is done with a field of a message.
type field struct {
	size  func(m *api.Msg) int                 // how many bytes of the body it takes
	lay   func(body []byte, m *api.Msg) []byte // lays it down behind the body
	take  func(m *api.Msg, rest []byte) []byte // takes it off the rest of the body
	look  func(m *api.Msg) bool                // whether its number is one that it may be
	blank func(m *api.Msg)                     // makes it 0, all zero, or empty
}

func fieldTable() [fieldRows]field {
	return [fieldRows]field{
		atKind:   kindField(),
		atOther:  otherField(),
		atIndex:  numberField(func(m *api.Msg) *int { return &m.Index }, 0, maxNumber),
		atBegin:  numberField(func(m *api.Msg) *int { return &m.Begin }, 0, maxNumber),
		atLength: numberField(func(m *api.Msg) *int { return &m.Length }, 0, maxNumber),
		atAsked:  numberField(func(m *api.Msg) *int { return &m.Length }, 1, api.MaxBlock),
		atRoot:   rootField(),
		atBase:   numberField(func(m *api.Msg) *int { return &m.Base }, 0, maxNumber),
		atProofs: numberField(func(m *api.Msg) *int { return &m.Proofs }, 0, maxNumber),
		atData:   dataField(),
		atHashes: hashesField(),
	}
}

// always is the look of a field that has no number to look at.
func always(m *api.Msg) bool { return true }

// kindField takes no number off the body: who reads one has looked at its first byte already.
func kindField() field {
	return field{
		size:  func(m *api.Msg) int { return 1 },
		lay:   func(body []byte, m *api.Msg) []byte { return append(body, byte(m.Kind)) },
		take:  func(m *api.Msg, rest []byte) []byte { return rest[1:] },
		look:  always,
		blank: func(m *api.Msg) {},
	}
}

func otherField() field {
	return field{
		size: func(m *api.Msg) int { return 1 },
		lay:  func(body []byte, m *api.Msg) []byte { return append(body, byte(m.Index)) },
		take: func(m *api.Msg, rest []byte) []byte {
			m.Index = int(rest[0])
			return rest[1:]
		},
		look:  func(m *api.Msg) bool { return m.Index >= minOther && m.Index <= maxOther },
		blank: func(m *api.Msg) { m.Index = 0 },
	}
}

// numberField is the row of a number. Its bounds are no ints, since an int may be too small for them.
func numberField(of func(m *api.Msg) *int, least, most int64) field {
	return field{
		size: func(m *api.Msg) int { return numberSize },
		lay:  func(body []byte, m *api.Msg) []byte { return layNumber(body, *of(m)) },
		take: func(m *api.Msg, rest []byte) []byte {
			*of(m) = number(rest)
			return rest[numberSize:]
		},
		look: func(m *api.Msg) bool {
			n := int64(*of(m))
			return n >= least && n <= most
		},
		blank: func(m *api.Msg) { *of(m) = 0 },
	}
}

func layNumber(body []byte, n int) []byte {
	return append(body, byte(n>>24), byte(n>>16), byte(n>>8), byte(n))
}

// number is the number that b begins with.
func number(b []byte) int {
	return int(uint32(b[0])<<24 | uint32(b[1])<<16 | uint32(b[2])<<8 | uint32(b[3]))
}

func rootField() field {
	return field{
		size: func(m *api.Msg) int { return hashSize },
		lay:  func(body []byte, m *api.Msg) []byte { return append(body, m.Root[:]...) },
		take: func(m *api.Msg, rest []byte) []byte {
			copy(m.Root[:], rest)
			return rest[hashSize:]
		},
		look:  always,
		blank: func(m *api.Msg) { m.Root = api.Hash{} },
	}
}

func dataField() field {
	return field{
		size: func(m *api.Msg) int { return len(m.Data) },
		lay:  func(body []byte, m *api.Msg) []byte { return append(body, m.Data...) },
		take: func(m *api.Msg, rest []byte) []byte {
			m.Data = append([]byte(nil), rest...)
			return nil
		},
		look:  always,
		blank: func(m *api.Msg) { m.Data = nil },
	}
}

func hashesField() field {
	return field{
		size:  func(m *api.Msg) int { return hashSize * len(m.Hashes) },
		lay:   layHashes,
		take:  takeHashes,
		look:  always,
		blank: func(m *api.Msg) { m.Hashes = nil },
	}
}

func layHashes(body []byte, m *api.Msg) []byte {
	for _, h := range m.Hashes {
		body = append(body, h[:]...)
	}
	return body
}

func takeHashes(m *api.Msg, rest []byte) []byte {
	m.Hashes = make([]api.Hash, len(rest)/hashSize)
	for i := range m.Hashes {
		copy(m.Hashes[i][:], rest[i*hashSize:])
	}
	return nil
}
