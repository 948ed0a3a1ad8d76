package codec

import "wapentake/api"

// The functions of this file return what bytes are the encoding of. Beside an error, what they return counts for nothing.

func headerOf(b []byte) (api.Header, error) {
	f := open(b)
	return done(f, api.Header{
		Chain:    next(f, numberOf[int]),
		Epoch:    next(f, numberOf[int]),
		Height:   next(f, numberOf[int64]),
		View:     next(f, numberOf[int64]),
		Parent:   next(f, digestOf),
		Txs:      next(f, digestOf),
		Root:     next(f, digestOf),
		Proposer: next(f, numberOf[int]),
	})
}

func qcOf(b []byte) (api.QC, error) {
	f := open(b)
	return done(f, api.QC{
		Chain:   next(f, numberOf[int]),
		Epoch:   next(f, numberOf[int]),
		View:    next(f, numberOf[int64]),
		Block:   next(f, digestOf),
		Signers: next(f, numbersOf),
		Sigs:    next(f, listOf(sigOf)),
	})
}

func commitOf(b []byte) (api.Commit, error) {
	f := open(b)
	return done(f, api.Commit{
		Path: next(f, listOf(headerOf)),
		QC:   next(f, qcOf),
	})
}

func factOf(b []byte) (api.Fact, error) {
	f := open(b)
	return done(f, api.Fact{
		Commit: next(f, commitOf),
		Key:    next(f, digestOf),
		Value:  next(f, bytesOf),
		Absent: next(f, truthOf),
		Proof:  next(f, bytesOf),
	})
}

func recordOf(b []byte) (api.Record, error) {
	f := open(b)
	return done(f, api.Record{
		Epoch:   next(f, numberOf[int]),
		Members: next(f, numbersOf),
		Seats:   next(f, listOf(numbersOf)),
	})
}

func txOf(b []byte) (api.Tx, error) {
	f := open(b)
	return done(f, api.Tx{
		Kind:     next(f, numberOf[int]),
		From:     next(f, numberOf[uint64]),
		To:       next(f, numberOf[uint64]),
		Amount:   next(f, numberOf[uint64]),
		Nonce:    next(f, numberOf[uint64]),
		Dst:      next(f, numberOf[int]),
		Deadline: next(f, numberOf[int64]),
		Id:       next(f, digestOf),
		Member:   next(f, numberOf[int]),
		Facts:    next(f, listOf(factOf)),
	})
}

func blockOf(b []byte) (api.Block, error) {
	f := open(b)
	return done(f, api.Block{
		Header:   next(f, headerOf),
		Justify:  next(f, qcOf),
		Handover: next(f, listOf(commitOf)),
		Txs:      next(f, listOf(txOf)),
		Sig:      next(f, sigOf),
	})
}

func voteOf(b []byte) (api.Vote, error) {
	f := open(b)
	return done(f, api.Vote{
		Chain:  next(f, numberOf[int]),
		Epoch:  next(f, numberOf[int]),
		View:   next(f, numberOf[int64]),
		Block:  next(f, digestOf),
		Signer: next(f, numberOf[int]),
		Sig:    next(f, sigOf),
	})
}

func timeoutOf(b []byte) (api.Timeout, error) {
	f := open(b)
	return done(f, api.Timeout{
		Chain:  next(f, numberOf[int]),
		Epoch:  next(f, numberOf[int]),
		View:   next(f, numberOf[int64]),
		High:   next(f, qcOf),
		Signer: next(f, numberOf[int]),
		Sig:    next(f, sigOf),
	})
}

func messageOf(b []byte) (api.Message, error) {
	f := open(b)
	return done(f, api.Message{
		Kind:     next(f, numberOf[int]),
		Chain:    next(f, numberOf[int]),
		Height:   next(f, numberOf[int64]),
		Digest:   next(f, digestOf),
		Blocks:   next(f, listOf(blockOf)),
		Votes:    next(f, listOf(voteOf)),
		Timeouts: next(f, listOf(timeoutOf)),
		Commits:  next(f, listOf(commitOf)),
		Txs:      next(f, listOf(txOf)),
	})
}

func sigOf(b []byte) (api.Sig, error) {
	f := open(b)
	return done(f, api.Sig{
		Index: next(f, numberOf[int64]),
		Tag:   next(f, digestOf),
	})
}

func numbersOf(b []byte) ([]int, error) {
	return readList(b, numberOf[int])
}

func numberOf[N integer](b []byte) (N, error) {
	if len(b) != numberBytes {
		return 0, errSize
	}
	bits := uint64(0)
	for _, x := range b {
		bits = bits<<8 | uint64(x)
	}
	n := N(bits)
	if uint64(n) != bits { // where an int has 32 bits
		return 0, errWide
	}
	return n, nil
}

func digestOf(b []byte) (api.Digest, error) {
	var d api.Digest
	if len(b) != len(d) {
		return d, errSize
	}
	copy(d[:], b)
	return d, nil
}

func truthOf(b []byte) (bool, error) {
	if len(b) != 1 {
		return false, errSize
	}
	if b[0] > 1 {
		return false, errBool
	}
	return b[0] == 1, nil
}

func bytesOf(b []byte) ([]byte, error) {
	if len(b) == 0 {
		return nil, nil
	}
	return b, nil // a part is new memory that nothing else has
}
