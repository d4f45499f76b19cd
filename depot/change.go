package depot

import (
	"sledge/api"
	"sledge/archive"
	"sledge/bitset"
	"sledge/block"
	"sledge/catalog"
	"sledge/header"
	"sledge/journal"
)

// room returns the first sector of room for n blocks.
func (p *Depot) room(n int) (int, bool) {
	return catalog.Room(api.FirstSector, p.d.Len(), n, p.extents()...)
}

// writeSynced writes a sector and syncs the disk.
func (p *Depot) writeSynced(i int, s string) api.Errno {
	if e := p.d.Write(i, s); e != api.OK {
		return e
	}
	return p.d.Sync()
}

// Begin starts a transfer.
func (p *Depot) Begin(h api.Header) api.Errno {
	if e := p.ready(); e != api.OK {
		return e
	}
	if e := header.Verify(p.key, h); e != api.OK {
		return e
	}
	if own, _, e := p.Head(h.ID); e == api.OK {
		if own == h {
			return api.OK
		}
		return api.ErrDup
	}
	k := p.freeRecord()
	if k < 0 {
		return api.ErrFull
	}
	base, ok := p.room(h.N)
	if !ok {
		return api.ErrSpace
	}
	r := journal.Record{Extent: api.Extent{Head: h, Base: base}, Got: bitset.New(h.N)}
	s, e := journal.Put(r)
	if e != api.OK {
		return e
	}
	if e := p.writeSynced(firstRecord+k, s); e != api.OK {
		return e
	}
	p.records[k] = &r
	return api.OK
}

// Stage stores a block of an archive in progress.
func (p *Depot) Stage(id, i int, s string) api.Errno {
	if e := p.ready(); e != api.OK {
		return e
	}
	k := p.record(id)
	if k < 0 {
		return api.ErrNone
	}
	r := *p.records[k]
	if i < 0 || i >= r.Head.N {
		return api.ErrRange
	}
	if len(s) != block.Size {
		return api.ErrArg
	}
	if r.Got.Has(i) {
		return api.OK
	}
	r.Got = r.Got.With(i)
	text, e := journal.Put(r)
	if e != api.OK {
		return e
	}
	if e := p.d.Write(r.Base+i, s); e != api.OK {
		return e
	}
	p.staged++ // written is more than staged: the power may still fail before the record has the block
	// The block must be safe before the record says that it is there.
	if e := p.d.Sync(); e != api.OK {
		return e
	}
	if e := p.d.Write(firstRecord+k, text); e != api.OK {
		return e
	}
	p.records[k] = &r
	return api.OK
}

// Commit makes an archive visible.
func (p *Depot) Commit(id int) api.Errno {
	if e := p.ready(); e != api.OK {
		return e
	}
	if p.entry(id) >= 0 {
		return api.OK
	}
	k := p.record(id)
	if k < 0 {
		return api.ErrNone
	}
	r := *p.records[k]
	if !r.Got.Full() {
		return api.ErrState
	}
	blocks, e := p.blocks(r.Extent)
	if e != api.OK {
		return e
	}
	if archive.Root(blocks...) != r.Head.Root {
		return api.ErrRoot
	}
	if e := p.enter(r.Extent); e != api.OK {
		return e
	}
	// The archive is kept from here on: a record that stays behind meets its entry when the disk is opened again.
	p.records[k] = nil
	return p.d.Write(firstRecord+k, "")
}

// enter writes the entry of an archive whose blocks are synced.
func (p *Depot) enter(x api.Extent) api.Errno {
	k := p.freeEntry()
	if k < 0 {
		return api.ErrFull
	}
	s, e := catalog.Put(x)
	if e != api.OK {
		return e
	}
	if e := p.writeSynced(firstEntry+k, s); e != api.OK {
		return e
	}
	p.entries[k] = &x
	return api.OK
}

// Abort ends a transfer.
func (p *Depot) Abort(id int) api.Errno {
	if e := p.ready(); e != api.OK {
		return e
	}
	k := p.record(id)
	if k < 0 {
		return api.ErrNone
	}
	if e := p.writeSynced(firstRecord+k, ""); e != api.OK {
		return e
	}
	p.records[k] = nil
	return api.OK
}

// Add stores an archive.
func (p *Depot) Add(secret string, a api.Archive) api.Errno {
	if e := p.ready(); e != api.OK {
		return e
	}
	if e := p.check(secret, a); e != api.OK {
		return e
	}
	if _, _, e := p.Head(a.Head.ID); e == api.OK {
		return api.ErrDup
	}
	if p.freeEntry() < 0 {
		return api.ErrFull
	}
	base, ok := p.room(a.Head.N)
	if !ok {
		return api.ErrSpace
	}
	for i, b := range a.Blocks {
		if e := p.d.Write(base+i, b); e != api.OK {
			return e
		}
	}
	if e := p.d.Sync(); e != api.OK {
		return e
	}
	return p.enter(api.Extent{Head: a.Head, Base: base})
}
