package codec

import (
	"wapentake/api"
	"wapentake/sha"
)

// numberBytes is how many bytes a number takes.
const numberBytes = 8

// integer is a type of the numbers in api's structs.
type integer interface {
	int | int64 | uint64
}

// Header returns the encoding of x.
func Header(x api.Header) []byte {
	return sha.Join(
		number(x.Chain), number(x.Epoch), number(x.Height), number(x.View),
		x.Parent[:], x.Txs[:], x.Root[:], number(x.Proposer),
	)
}

// QC returns the encoding of x.
func QC(x api.QC) []byte {
	return sha.Join(
		number(x.Chain), number(x.Epoch), number(x.View), x.Block[:],
		numbers(x.Signers), list(x.Sigs, sig),
	)
}

// Commit returns the encoding of x.
func Commit(x api.Commit) []byte {
	return sha.Join(list(x.Path, Header), QC(x.QC))
}

// Fact returns the encoding of x.
func Fact(x api.Fact) []byte {
	return sha.Join(Commit(x.Commit), x.Key[:], x.Value, truth(x.Absent), x.Proof)
}

// Record returns the encoding of x.
func Record(x api.Record) []byte {
	return sha.Join(number(x.Epoch), numbers(x.Members), list(x.Seats, numbers))
}

// Tx returns the encoding of x.
func Tx(x api.Tx) []byte {
	return sha.Join(
		number(x.Kind), number(x.From), number(x.To), number(x.Amount), number(x.Nonce),
		number(x.Dst), number(x.Deadline), x.Id[:], number(x.Member), list(x.Facts, Fact),
	)
}

// Block returns the encoding of x.
func Block(x api.Block) []byte {
	return sha.Join(
		Header(x.Header), QC(x.Justify), list(x.Handover, Commit), list(x.Txs, Tx), sig(x.Sig),
	)
}

// Vote returns the encoding of x.
func Vote(x api.Vote) []byte {
	return sha.Join(
		number(x.Chain), number(x.Epoch), number(x.View), x.Block[:],
		number(x.Signer), sig(x.Sig),
	)
}

// Timeout returns the encoding of x.
func Timeout(x api.Timeout) []byte {
	return sha.Join(
		number(x.Chain), number(x.Epoch), number(x.View), QC(x.High),
		number(x.Signer), sig(x.Sig),
	)
}

// Message returns the encoding of x.
func Message(x api.Message) []byte {
	return sha.Join(
		number(x.Kind), number(x.Chain), number(x.Height), x.Digest[:],
		list(x.Blocks, Block), list(x.Votes, Vote), list(x.Timeouts, Timeout),
		list(x.Commits, Commit), list(x.Txs, Tx),
	)
}

func sig(x api.Sig) []byte {
	return sha.Join(number(x.Index), x.Tag[:])
}

// list returns the encoding of a list, by that of an element.
func list[T any](l []T, element func(T) []byte) []byte {
	parts := make([][]byte, 0, len(l))
	for _, x := range l {
		parts = append(parts, element(x))
	}
	return sha.Join(parts...)
}

func numbers(l []int) []byte {
	return list(l, number[int])
}

func number[N integer](n N) []byte {
	b := make([]byte, 0, numberBytes)
	for shift := 8 * (numberBytes - 1); shift >= 0; shift -= 8 {
		b = append(b, byte(uint64(n)>>shift))
	}
	return b
}

func truth(x bool) []byte {
	if x {
		return []byte{1}
	}
	return []byte{0}
}
