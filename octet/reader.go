package octet

// octets are bytes of which pieces are cut.
type octets []byte

// piece cuts so many bytes from a place on; it answers false where there are not so many. It leaves no spare room, so that nothing can be laid over the bytes behind. How many is a number as it was read: it may be greater than any length.
func (o octets) piece(at int, many uint64) ([]byte, bool) {
	if many > uint64(len(o)-at) {
		return nil, false
	}
	end := at + int(many)
	return o[at:end:end], true
}

// reader takes bytes from the left; at is how many are taken. One that answered false is read no further.
type reader struct {
	octets
	at int
}

func (r *reader) take(many uint64) ([]byte, bool) {
	b, ok := r.piece(r.at, many)
	r.at += len(b)
	return b, ok
}

// number takes the bytes of one number.
func (r *reader) number() (uint64, bool) {
	var b []byte
	head, ok := r.take(1)
	if !ok || head[0] > longest {
		goto none
	}
	b, ok = r.take(uint64(head[0]))
	if !ok || len(b) > 0 && b[0] == 0 { // a nought ahead is more than it needs
		goto none
	}
	return join(b), true
none:
	return 0, false
}

// text takes the bytes of one text, and answers its own.
func (r *reader) text() ([]byte, bool) {
	many, ok := r.number()
	if !ok {
		return nil, false
	}
	return r.take(many)
}
