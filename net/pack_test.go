package net_test

import (
	"bytes"
	"math"
	"slices"
	"testing"

	"tenement/api"
	"tenement/net"
)

// raw is 16 bytes that begin with these, and are noughts from there on.
func raw(b ...byte) []byte { return append(slices.Clone(b), make([]byte, 16-len(b))...) }

// noBytes are numbers that a byte can't tell, noWords those that two can't.
var (
	noBytes = []int{math.MinInt, math.MinInt32, -257, -256, -255, -1, 256, 257, 511, 512, 65536, 1 << 32, 1<<32 + 1, math.MaxInt - 255, math.MaxInt}
	noWords = []int{math.MinInt, math.MinInt32, -65536, -65535, -1, 65536, 65537, 1 << 17, 1 << 32, 1<<32 + 1, math.MaxInt - 65535, math.MaxInt}
)

func wantPacket(t *testing.T, ref, off, n, id int, is []byte, e api.Errno) {
	t.Helper()
	if b, ge := net.Packet(ref, off, n, id); !bytes.Equal(b, is) || ge != e {
		t.Errorf("Packet(%d, %d, %d, %d) = %x, %v, not %x, %v", ref, off, n, id, b, ge, is, e)
	}
}

func wantBuffer(t *testing.T, ref, id int, is []byte, e api.Errno) {
	t.Helper()
	if b, ge := net.Buffer(ref, id); !bytes.Equal(b, is) || ge != e {
		t.Errorf("Buffer(%d, %d) = %x, %v, not %x, %v", ref, id, b, ge, is, e)
	}
}

func wantReply(t *testing.T, b []byte, id, status, n int, e api.Errno) {
	t.Helper()
	if gi, gs, gn, ge := net.Reply(b); gi != id || gs != status || gn != n || ge != e {
		t.Errorf("Reply(%x) = %d, %d, %d, %v, not %d, %d, %d, %v", b, gi, gs, gn, ge, id, status, n, e)
	}
}

// P15.1: Packet, Buffer

func TestPacket(t *testing.T) {
	wantPacket(t, 3, 16, 60, 7, raw(3, 0x10, 0x3c, 0, 7), api.OK)
	wantPacket(t, 1, 2, 3, 0x504, raw(1, 2, 3, 0, 4, 5), api.OK)
	wantPacket(t, 0, 0, 0, 0, raw(), api.OK)
	wantPacket(t, 255, 255, 255, 65535, raw(255, 255, 255, 0, 255, 255), api.OK)
	for i := range 256 {
		wantPacket(t, i, 1, 2, 3, raw(byte(i), 1, 2, 0, 3), api.OK)
		wantPacket(t, 1, i, 2, 3, raw(1, byte(i), 2, 0, 3), api.OK)
		wantPacket(t, 1, 2, i, 3, raw(1, 2, byte(i), 0, 3), api.OK)
	}
}

func TestBuffer(t *testing.T) {
	wantBuffer(t, 3, 7, raw(3, 0, 0, 0, 7), api.OK)
	wantBuffer(t, 0, 0, raw(), api.OK)
	wantBuffer(t, 255, 65535, raw(255, 0, 0, 0, 255, 255), api.OK)
	for i := range 256 {
		wantBuffer(t, i, 0x201, raw(byte(i), 0, 0, 0, 1, 2), api.OK)
	}
}

func TestPacketOfEachID(t *testing.T) {
	for id := range 65536 {
		is := raw(9, 8, 7, 0, byte(id), byte(id>>8))
		wantPacket(t, 9, 8, 7, id, is, api.OK)
		is[1], is[2] = 0, 0
		wantBuffer(t, 9, id, is, api.OK)
	}
}

func TestPacketArguments(t *testing.T) {
	for _, x := range noBytes {
		wantPacket(t, x, 1, 2, 3, nil, api.ErrArg)
		wantPacket(t, 1, x, 2, 3, nil, api.ErrArg)
		wantPacket(t, 1, 2, x, 3, nil, api.ErrArg)
		wantPacket(t, x, x, x, x, nil, api.ErrArg)
		wantBuffer(t, x, 3, nil, api.ErrArg)
	}
	for _, x := range noWords {
		wantPacket(t, 1, 2, 3, x, nil, api.ErrArg)
		wantBuffer(t, 1, x, nil, api.ErrArg)
		for _, y := range noBytes {
			wantPacket(t, y, 2, 3, x, nil, api.ErrArg)
			wantBuffer(t, y, x, nil, api.ErrArg)
		}
	}
}

// What is told is new memory.
func TestPacketTwice(t *testing.T) {
	a, _ := net.Packet(1, 2, 3, 4)
	b, _ := net.Buffer(1, 4)
	clear(a[:cap(a)])
	clear(b[:cap(b)])
	wantPacket(t, 1, 2, 3, 4, raw(1, 2, 3, 0, 4), api.OK)
	wantBuffer(t, 1, 4, raw(1, 0, 0, 0, 4), api.OK)
}

// P15.1: Reply

func TestReply(t *testing.T) {
	wantReply(t, []byte{7, 0, 0, 60, 0, 0, 0, 0}, 7, api.SOK, 60, api.OK)
	wantReply(t, []byte{4, 5, 2, 0, 0, 0, 0, 0}, 0x504, api.SFull, 0, api.OK)
	wantReply(t, make([]byte, 8), 0, 0, 0, api.OK)
	wantReply(t, []byte{1, 2, 3, 4, 0xee, 0xee, 0xee, 0xee}, 0x201, 3, 4, api.OK)
	wantReply(t, bytes.Repeat([]byte{255}, 8), 65535, 255, 255, api.OK)
	for i := range 256 {
		x := byte(i)
		wantReply(t, []byte{x, 1, 2, 3, 0, 0, 0, 0}, 256+i, 2, 3, api.OK)
		wantReply(t, []byte{1, x, 2, 3, 0, 0, 0, 0}, 256*i+1, 2, 3, api.OK)
		wantReply(t, []byte{1, 2, x, 3, 0, 0, 0, 0}, 0x201, i, 3, api.OK)
		wantReply(t, []byte{1, 2, 3, x, 0, 0, 0, 0}, 0x201, 3, i, api.OK)
	}
}

func TestReplyOfOtherBytes(t *testing.T) {
	wantReply(t, nil, 0, 0, 0, api.ErrArg)
	for n := range 300 {
		if n != 8 {
			wantReply(t, bytes.Repeat([]byte{9}, n), 0, 0, 0, api.ErrArg)
		}
	}
}

func TestReplyLeavesItsBytes(t *testing.T) {
	b := []byte{1, 2, 3, 4, 5, 6, 7, 8}
	net.Reply(b)
	if !bytes.Equal(b, []byte{1, 2, 3, 4, 5, 6, 7, 8}) {
		t.Errorf("Reply has changed what it was given: %x", b)
	}
}
