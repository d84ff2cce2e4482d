package opt_test

import (
	"testing"

	"stillroom/api"
)

// The inode that rotted is the least one: the others are alike without it.
func TestStepPastAnInodeThatRotted(t *testing.T) {
	r := newRoom(t, 9, file("x"), file("x"), file("x"))
	r.rot(t, 0, 0)
	r.step(t, "0/=0 1/=1 2/=1")
	r.none(t)
	r.rot(t, 0, 0) // it can be read again
	r.steps(t, 2, "0/=0 1/=0 2/=0")
}

// The file that rotted stays by itself.
func TestStepPastAFileThatRotted(t *testing.T) {
	r := newRoom(t, 9, file("x"), dir(kid("a", file("x")), kid("b", file("x"))))
	r.rot(t, 1, 0)
	r.step(t, "0/=0 1/a=1 1/b=0")
	r.none(t)
	r.rot(t, 1, 0)
	r.step(t, "0/=0 1/a=0 1/b=0")
	r.none(t)
}

// A tree with a file that rotted can't be got, and its other files are found.
func TestStepOfATreeThatRotted(t *testing.T) {
	r := newRoom(t, 9, dir(kid("a", file("gone")), kid("b", file("x")), kid("c", file("x"))))
	r.rot(t, 0, 0)
	r.step(t, "0/a=0 0/b=1 0/c=1")
	r.none(t)
}

// Bytes that rotted alike are not alike, nor what they rotted into.
func TestStepOfBytesThatRottedAlike(t *testing.T) {
	r := newRoom(t, 9, file("a"), file("a"), file("c"))
	r.rot(t, 0, 1)
	r.rot(t, 1, 1) // both would be c
	r.none(t)
	r.saves(t, 0, 6)
}

// Each block of a file counts; what fills up the last one does not.
func TestStepOfEachBlockThatRots(t *testing.T) {
	r := newRoom(t, 9, file(long(40)), file(long(40)))
	for k := range 6 {
		r.rot(t, k, 63)
		r.none(t)
		r.rot(t, k, 63)
	}
	r.rot(t, 2, 8*api.BlockSize-1)
	r.step(t, "0/=0 1/=0")
}

func TestAllOfNothingThatCanBeRead(t *testing.T) {
	r := newRoom(t, 4, file("x"), file("x"), file("x"))
	for k := range 3 {
		r.rot(t, k, 0)
	}
	r.none(t)
	r.are(t, "0/=0 1/=1 2/=2")
}

// Files without bytes have nothing that rots.
func TestStepOfFilesWithoutBytesOnADiskThatRots(t *testing.T) {
	r := newRoom(t, 1, file(""), file(""))
	for bit := range 8 * api.BlockSize {
		r.rot(t, 0, bit)
	}
	r.step(t, "0/=0 1/=0")
}

// Files that share what rotted stay so.
func TestAllOfASharedInodeThatRotted(t *testing.T) {
	r := newRoom(t, 9, file("x"), file("x"), file("x"), file("x"))
	r.share(t, 3, "/", 2)
	r.rot(t, 2, 0)
	r.steps(t, 1, "0/=0 1/=0 2/=2 3/=2")
	r.rot(t, 2, 0)
	r.steps(t, 2, "0/=0 1/=0 2/=0 3/=0")
}
