package vote

import (
	"bytes"

	"spindle/api"
	"spindle/super"
)

// A poll is ballots that have been looked through: which of them count, and the greatest Events of these.
type poll struct {
	ballots []api.Ballot
	counts  func(slot int) bool
	most    func() uint64
}

func newPoll(l []api.Ballot) poll {
	counted := make([]bool, len(l))
	most := uint64(0)
	enter := func(slot int) {
		if valid(l[slot], slot, len(l)-1) {
			counted[slot] = true
			most = max(most, l[slot].Super.Events)
		}
	}
	for slot := range l {
		enter(slot)
	}
	return poll{
		ballots: l,
		counts:  func(slot int) bool { return counted[slot] },
		most:    func() uint64 { return most },
	}
}

// valid says whether a ballot is that of a disk of such an array, in its own slot.
func valid(b api.Ballot, slot, members int) bool {
	return b.Has && super.Check(b.Super) == api.OK && b.Super.Geometry.Members == members && b.Super.Role == slot
}

// refusal is why no guide can be found, or be believed.
func (p poll) refusal() api.Errno {
	// No superblock that counts has Events 0.
	if p.most() == 0 {
		return api.ErrVoteNone
	}
	if !p.agree(p.counts, super.Akin) {
		return api.ErrVoteSplit
	}
	if p.counts(p.journal()) {
		return api.OK
	}
	return p.orphaned()
}

// orphaned is why the members can't do without their journal.
func (p poll) orphaned() api.Errno {
	for slot, b := range p.ballots {
		if p.latest(slot) && !b.Super.Lost {
			return api.ErrVoteJournal
		}
	}
	if !p.agree(p.latest, same) {
		return api.ErrVoteSplit
	}
	return api.OK
}

// agree says whether each two of the ballots that are asked for are alike.
func (p poll) agree(asked func(slot int) bool, alike func(a, b api.Super) bool) bool {
	agreed := true
pairs:
	for slot, b := range p.ballots {
		if !asked(slot) {
			continue
		}
		for other, c := range p.ballots[:slot] {
			if asked(other) && !alike(c.Super, b.Super) {
				agreed = false
				break pairs
			}
		}
	}
	return agreed
}

// same says whether two valid superblocks differ in Role at most: a superblock has one encoding, and no other has it.
func same(a, b api.Super) bool {
	a.Role, b.Role = 0, 0
	one, _ := super.Encode(a)
	other, _ := super.Encode(b)
	return bytes.Equal(one, other)
}

// guide is the slot of the ballot by which the others are judged.
func (p poll) guide() int {
	if p.counts(p.journal()) {
		return p.journal()
	}
	// One member is the latest, or none would count.
	member := 0
	for !p.latest(member) {
		member++
	}
	return member
}

// latest says whether a ballot has the greatest Events of all that count.
func (p poll) latest(slot int) bool {
	return p.counts(slot) && p.ballots[slot].Super.Events == p.most()
}

// saw says whether a member's disk has been told of an announcement.
func (p poll) saw(member int, events uint64) bool {
	return p.counts(member) && p.ballots[member].Super.Events >= events
}

func (p poll) journal() int { return len(p.ballots) - 1 }
