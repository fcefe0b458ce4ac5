package vote_test

import (
	"testing"

	"spindle/api"
)

func TestExampleOfAllAlike(t *testing.T) {
	wantVerdict(t, poll(t, "5/4 uuu", "5/4 uuu", "5/4 uuu", "5/4 uuu"), "5/4 uuu journal")
}

func TestExampleOfOutdatedMembers(t *testing.T) {
	wantVerdict(t, poll(t, "5/4 uuu", "", "5/4 uuu", "5/4 uuu"), "5/4 udu changed journal")
	wantError(t, poll(t, "5/4 uuu", "7/6 udu", "7/6 udu", "7/6 udu"), api.ErrVoteMany)
	wantVerdict(t, poll(t, "6/5 udu", "7/6 udu", "7/6 udu", "7/6 udu"), "7/6 udu journal")
	wantVerdict(t, poll(t, "8/4 ddd", "5/4 uuu", "5/4 uuu", "5/4 uuu"), "8/4 uuu journal")
}

func TestExampleOfMissingOnes(t *testing.T) {
	wantVerdict(t, poll(t, "5/4 uru", "", "5/4 uru", "5/4 uru"), "5/4 udu cursor=0 changed journal")
	wantError(t, poll(t, "", "", "", ""), api.ErrVoteNone)
	wantError(t, poll(t, "5/4 uuu", "5/4 uuu", "5/4 uuu", ""), api.ErrVoteJournal)
	wantVerdict(t, poll(t, "5/4 uuu lost", "5/4 uuu lost", "5/4 uuu lost", ""), "5/4 uuu lost")
	wantError(t, poll(t, "5/4 uuu", "5/4 uuu lost", "5/4 uuu lost", ""), api.ErrVoteJournal)
	wantError(t, poll(t, "5/4 uuu lost", "5/4 uuu", "5/4 uuu lost", ""), api.ErrVoteJournal)
	wantError(t, poll(t, "5/4 uuu lost", "5/4 uuu lost", "5/4 uuu", ""), api.ErrVoteJournal)
}

func TestExampleOfAnotherArray(t *testing.T) {
	wantError(t, poll(t, "5/4 uuu id=1", "5/4 uuu id=2", "5/4 uuu id=1", "5/4 uuu id=1"), api.ErrVoteSplit)
	wantError(t, poll(t, "5/4 uuu id=1", "5/4 uuu id=2", "5/4 uuu id=3", "5/4 uuu id=4"), api.ErrVoteSplit)
	wantError(t, poll(t, "5/4 uuu", "5/4 uuu", "5/4 uuu"), api.ErrArg)
}
