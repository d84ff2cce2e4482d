package store_test

import (
	"maps"
	"slices"
	"strconv"
	"strings"

	"stillroom/api"
	"stillroom/disk"
	"stillroom/inode"
	"stillroom/tree"
)

// slow is a store told by the words of the document, with no disk below: an inode
// has its bytes, and of its bits those that are turned.
type slow struct {
	blocks int
	packs  []slowPack
	roots  map[string]bool
	inodes map[int]*slowInode
}

type slowPack struct {
	name  string
	node  api.Node
	refs  []string
	files []slowFile
}

type slowFile struct {
	path  string
	inode int
}

type slowInode struct {
	node   api.Node
	blocks []int
	turned map[int]bool
}

func newSlow(blocks int) *slow {
	return &slow{blocks, nil, map[string]bool{}, map[int]*slowInode{}}
}

func (s *slow) copy() *slow {
	c := newSlow(s.blocks)
	maps.Copy(c.roots, s.roots)
	for _, p := range s.packs {
		p.files = slices.Clone(p.files)
		c.packs = append(c.packs, p)
	}
	for n, x := range s.inodes {
		c.inodes[n] = &slowInode{x.node, x.blocks, maps.Clone(x.turned)}
	}
	return c
}

func (s *slow) find(name string) *slowPack {
	for i := range s.packs {
		if s.packs[i].name == name {
			return &s.packs[i]
		}
	}
	return nil
}

// free are the blocks that no inode has.
func (s *slow) free() []int {
	var l []int
	for k := range s.blocks {
		if s.at(k) == nil {
			l = append(l, k)
		}
	}
	return l
}

// at is the inode that has a block.
func (s *slow) at(k int) *slowInode {
	for _, x := range s.inodes {
		if slices.Contains(x.blocks, k) {
			return x
		}
	}
	return nil
}

func (s *slow) numbers() []int { return slices.Sorted(maps.Keys(s.inodes)) }

func (s *slow) add(name string, n api.Node) error {
	switch {
	case s.find(name) != nil:
		return api.ErrExist
	case len(s.packs) == api.MaxPacks:
		return api.ErrFull
	}
	p := slowPack{name: name, node: n}
	for _, q := range append(s.packs, p) {
		if mentions(n, q.name) {
			p.refs = append(p.refs, q.name)
		}
	}
	slices.Sort(p.refs)
	for _, at := range tree.Files(n) {
		x := fileAt(n, at)
		free, need := s.free(), (len(x.Data)+api.BlockSize-1)/api.BlockSize
		if need > len(free) {
			return api.ErrFull
		}
		k := 0
		for s.inodes[k] != nil {
			k++
		}
		s.inodes[k] = &slowInode{x, free[:need], map[int]bool{}}
		p.files = append(p.files, slowFile{at, k})
	}
	s.packs = append(s.packs, p)
	return nil
}

// mentions: does a node, or one behind it, mention a name?
func mentions(n api.Node, name string) bool {
	const bytes = "abcdefghijklmnopqrstuvwxyz0123456789.-"
	for i := range len(n.Data) {
		behind, is := strings.CutPrefix(n.Data[i:], "#"+name)
		if is && (behind == "" || !strings.Contains(bytes, behind[:1])) {
			return true
		}
	}
	return slices.ContainsFunc(n.Kids, func(k api.Kid) bool { return mentions(k.Node, name) })
}

func fileAt(n api.Node, at string) api.Node {
	for name := range strings.SplitSeq(strings.Trim(at, "/"), "/") {
		for _, k := range n.Kids {
			if k.Name == name {
				n = k.Node
				break
			}
		}
	}
	return n
}

func (s *slow) root(name string) error {
	switch {
	case s.find(name) == nil:
		return api.ErrNone
	case s.roots[name]:
		return api.ErrExist
	}
	s.roots[name] = true
	return nil
}

func (s *slow) unroot(name string) error {
	if !s.roots[name] {
		return api.ErrNone
	}
	delete(s.roots, name)
	return nil
}

// need of a pack: it, and what each of its Refs needs.
func (s *slow) need(name string, found map[string]bool) {
	if found[name] {
		return
	}
	found[name] = true
	for _, ref := range s.find(name).refs {
		s.need(ref, found)
	}
}

func (s *slow) gc() int {
	found := map[string]bool{}
	for name := range s.roots {
		s.need(name, found)
	}
	was := len(s.packs)
	s.packs = slices.DeleteFunc(s.packs, func(p slowPack) bool { return !found[p.name] })
	s.sweep()
	return was - len(s.packs)
}

// links of an inode: files that are it.
func (s *slow) links(n int) int {
	links := 0
	for _, p := range s.packs {
		for _, f := range p.files {
			if f.inode == n {
				links++
			}
		}
	}
	return links
}

func (s *slow) sweep() {
	for _, n := range s.numbers() {
		if s.links(n) == 0 {
			delete(s.inodes, n)
		}
	}
}

func (s *slow) opt() int {
	steps := 0
	for _, p := range s.packs {
		for i := range p.files {
			if s.share(&p.files[i]) {
				steps++
			}
		}
	}
	return steps
}

func (s *slow) share(f *slowFile) bool {
	x := s.inodes[f.inode]
	for _, n := range s.numbers() {
		y := s.inodes[n]
		if n < f.inode && len(x.turned)+len(y.turned) == 0 && tree.Same(x.node, y.node) {
			f.inode = n
			s.sweep()
			return true
		}
	}
	return false
}

func (s *slow) rot(k, bit int) error {
	if k >= s.blocks || bit >= 8*api.BlockSize {
		return api.ErrBound
	}
	x := s.at(k)
	if x == nil {
		return nil
	}
	at := 8*api.BlockSize*slices.Index(x.blocks, k) + bit
	if at < 8*len(x.node.Data) && x.turned[at] {
		delete(x.turned, at)
	} else if at < 8*len(x.node.Data) {
		x.turned[at] = true
	}
	return nil
}

func (s *slow) mend(n int, data string) error {
	x := s.inodes[n]
	switch {
	case x == nil:
		return api.ErrNone
	case x.node.Data != data:
		return api.ErrSum
	case len(x.turned) == 0:
		return api.ErrExist
	}
	clear(x.turned)
	return nil
}

func (s *slow) users(name string) []string {
	var l []string
	for _, p := range s.packs {
		if p.name != name && slices.Contains(p.refs, name) {
			l = append(l, p.name)
		}
	}
	slices.Sort(l)
	return l
}

func (s *slow) rotten() []string {
	var l []string
	for _, n := range s.numbers() {
		if len(s.inodes[n].turned) > 0 {
			l = append(l, strconv.Itoa(n))
		}
	}
	return l
}

func (s *slow) where(n int) []string {
	var l []string
	for _, p := range s.packs {
		for _, f := range p.files {
			if f.inode == n {
				l = append(l, p.name+f.path)
			}
		}
	}
	return l
}

func (s *slow) saved() int {
	saved := 0
	for n, x := range s.inodes {
		saved += (s.links(n) - 1) * len(x.blocks)
	}
	return saved
}

// whole: can all of a pack's files be read?
func (s *slow) whole(p slowPack) bool {
	return !slices.ContainsFunc(p.files, func(f slowFile) bool { return len(s.inodes[f.inode].turned) > 0 })
}

func (s *slow) stats() []inode.Stat {
	var l []inode.Stat
	for _, n := range s.numbers() {
		x := s.inodes[n]
		l = append(l, inode.Stat{
			Bytes: len(x.node.Data), Links: s.links(n), Exec: x.node.Exec, Blocks: x.blocks, Sum: disk.Sum(x.node.Data)})
	}
	return l
}
