package packet

import (
	"perigee/api"
)

// mark stands before each frame of a stream.
const mark = "\x1A\xCF\xFC\x1D"

// Stream returns the bytes of frames, each one behind the mark.
func Stream(l []api.Frame, size int) ([]byte, api.Fault) {
	fault := checkFrames(l, size, func(api.Frame) api.Fault { return api.OK })
	if fault != api.OK {
		return nil, fault
	}
	var b []byte
	for _, f := range l {
		b = append(b, mark...)
		b = append(b, frameBytes(f)...)
	}
	return b, api.OK
}

// Found finds frames in bytes, and returns the places of their marks.
func Found(b []byte, size int) ([]api.Frame, []int, api.Fault) {
	if fault := checkStream(len(b), size); fault != api.OK {
		return nil, nil, fault
	}
	var frames []api.Frame
	var places []int
	search(b, size, func(f api.Frame, place int) {
		frames = append(frames, f)
		places = append(places, place)
	})
	return frames, places, api.OK
}

// Feed finds frames in a stream that comes in parts, and returns what is held of it until more comes.
func Feed(held, b []byte, size int) ([]api.Frame, []byte, api.Fault) {
	if fault := checkStream(len(held)+len(b), size); fault != api.OK {
		return nil, nil, fault
	}
	if len(held) >= size+len(mark) {
		return nil, nil, api.ErrForm
	}
	all := make([]byte, 0, len(held)+len(b))
	all = append(all, held...)
	all = append(all, b...)
	var frames []api.Frame
	open := search(all, size, func(f api.Frame, _ int) {
		frames = append(frames, f)
	})
	return frames, all[open:], api.OK
}

func checkStream(many, size int) api.Fault {
	if fault := checkSize(size); fault != api.OK {
		return fault
	}
	if many > api.MaxStream {
		return api.ErrLarge
	}
	return api.OK
}

// search gives each frame and the place of its mark to found, and returns the first place that is still open.
func search(b []byte, size int, found func(f api.Frame, place int)) int {
	whole := len(mark) + size
	at := 0
	for at+whole <= len(b) {
		if f, ok := marked(b[at:at+whole], size); ok {
			found(f, at)
			at += whole
		} else {
			at++
		}
	}
	for at < len(b) && !mayBegin(b[at:]) {
		at++
	}
	return at
}

// marked returns the frame behind the mark, and false if the mark or the frame is not there.
func marked(b []byte, size int) (api.Frame, bool) {
	if !mayBegin(b) {
		return api.Frame{}, false
	}
	f, fault := ReadFrame(b[len(mark):], size)
	return f, fault == api.OK
}

// mayBegin says whether bytes begin with the mark, as far as they go.
func mayBegin(b []byte) bool {
	n := min(len(b), len(mark))
	return string(b[:n]) == mark[:n]
}
