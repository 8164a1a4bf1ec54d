package bigend_test

import (
	"bytes"
	"testing"

	"perigee/bigend"
)

func TestNumbers(t *testing.T) {
	for _, c := range []struct {
		n, many int
		want    []byte
	}{
		{0, 0, nil},
		{0, 1, []byte{0}},
		{255, 1, []byte{255}},
		{258, 2, []byte{1, 2}},
		{258, 4, []byte{0, 0, 1, 2}},
		{4000000000, 4, []byte{0xEE, 0x6B, 0x28, 0}},
		{0x0102030405060708, 8, []byte{1, 2, 3, 4, 5, 6, 7, 8}},
		{1<<63 - 1, 8, []byte{127, 255, 255, 255, 255, 255, 255, 255}},
		{-1 << 63, 8, []byte{128, 0, 0, 0, 0, 0, 0, 0}},
		{-2, 8, []byte{255, 255, 255, 255, 255, 255, 255, 254}},
	} {
		if got := bigend.Append(nil, c.n, c.many); !bytes.Equal(got, c.want) {
			t.Errorf("Append of %d: got %d, want %d", c.n, got, c.want)
		}
		if got := bigend.Append([]byte{7, 8}, c.n, c.many); !bytes.Equal(got, append([]byte{7, 8}, c.want...)) {
			t.Errorf("Append of %d behind others: got %d", c.n, got)
		}
		if got := bigend.Number(c.want); got != c.n {
			t.Errorf("Number of %d: got %d, want %d", c.want, got, c.n)
		}
	}
}

func TestAppendLeavesOutWhatHasNoRoom(t *testing.T) {
	if got := bigend.Append(nil, 0x010203, 2); !bytes.Equal(got, []byte{2, 3}) {
		t.Errorf("Append: got %d", got)
	}
}
