package raft_test

import (
	"slices"

	"wapentake/api"
	"wapentake/raft"
	"wapentake/reads"
	"wapentake/stable"
)

// standing is what a leader's model knows of another node.
type standing struct {
	match, next, round uint64
	sends              bool // whether a snapshot is being sent to it
	snap               api.Snap
	due                int
}

// asked is a read of a leader's model.
type asked struct {
	reads.Read
	isBegun bool
}

// model is a node by the chapter's words, and those of the chapters 10 to 13: it goes through whole lists wherever it looks for something, and calls none of those packages.
type model struct {
	id      uint8
	term    uint64
	vote    uint8
	snap    api.Snap
	entries []api.Entry
	commit  uint64
	role    string
	leader  uint8
	elapsed int
	wait    int
	voters  []uint8
	part    api.Snap
	parts   []int // the numbers of the sections of part that are stored
	peers   [6]standing
	round   uint64
	list    []asked
	target  uint8
	out     raft.Out
}

func newModel(id uint8, k stable.Kept, wait int) *model {
	return &model{id: id, term: k.Term, vote: k.Vote, snap: k.Snap, entries: slices.Clone(k.Entries), commit: k.Snap.Index, role: "follower", wait: limited(wait)}
}

func limited(wait int) int {
	if wait < 10 {
		return 10
	}
	if wait > 19 {
		return 19
	}
	return wait
}

func (m *model) last() (index, term uint64) {
	index, term = m.snap.Index, m.snap.Term
	for _, e := range m.entries {
		index, term = e.Index, e.Term
	}
	return index, term
}

func (m *model) lastIndex() uint64 {
	index, _ := m.last()
	return index
}

func (m *model) termAt(index uint64) (uint64, bool) {
	if index == m.snap.Index {
		return m.snap.Term, true
	}
	for _, e := range m.entries {
		if e.Index == index {
			return e.Term, true
		}
	}
	return 0, false
}

// membersAt are the members at an index, and the index that they are from.
func (m *model) membersAt(index uint64) (members uint8, since uint64) {
	members, since = m.snap.Members, m.snap.Index
	for _, e := range m.entries {
		if e.Kind == api.EConf && len(e.Body) == 1 && e.Index <= index {
			members, since = e.Body[0], e.Index
		}
	}
	return members, since
}

// members are the newest ones.
func (m *model) members() []uint8 {
	set, _ := m.membersAt(1<<64 - 1)
	return nodesOf(set)
}

func nodesOf(set uint8) []uint8 {
	var nodes []uint8
	for node := uint8(1); node <= 5; node++ {
		if set>>(node-1)&1 == 1 {
			nodes = append(nodes, node)
		}
	}
	return nodes
}

func (m *model) others() []uint8 {
	var nodes []uint8
	for _, node := range m.members() {
		if node != m.id {
			nodes = append(nodes, node)
		}
	}
	return nodes
}

func (m *model) isMember() bool {
	return slices.Contains(m.members(), m.id)
}

// level is the greatest mark that the marks of more than half of the members reach.
func (m *model) level(mark func(node uint8) uint64) uint64 {
	best := uint64(0)
	for _, one := range m.members() {
		count := 0
		for _, other := range m.members() {
			if mark(other) >= mark(one) {
				count++
			}
		}
		if 2*count > len(m.members()) && mark(one) > best {
			best = mark(one)
		}
	}
	return best
}

func (m *model) state() {
	m.out.Recs = append(m.out.Recs, api.Rec{Kind: api.RecState, Term: m.term, Vote: m.vote})
}

func (m *model) say(msg api.Msg) {
	msg.From, msg.Term = m.id, m.term
	m.out.Msgs = append(m.out.Msgs, msg)
}

// become changes the role; what is only of another one is gone.
func (m *model) become(role string, leader uint8) {
	m.role, m.leader = role, leader
	m.voters, m.peers, m.round, m.list, m.target = nil, [6]standing{}, 0, nil, 0
}

func (m *model) enter(term uint64) {
	m.term, m.vote = term, 0
	m.become("follower", 0)
	m.state()
}

func (m *model) stand(wait int) {
	m.term++
	m.vote = m.id
	m.become("candidate", 0)
	m.elapsed, m.wait = 0, limited(wait)
	m.state()
	index, term := m.last()
	for _, node := range m.others() {
		m.say(api.Msg{Kind: api.MVote, To: node, Index: index, LogTerm: term})
	}
	m.hasVote(m.id)
}

func (m *model) hasVote(node uint8) {
	m.voters = append(m.voters, node)
	count := 0
	for _, one := range m.members() {
		if slices.Contains(m.voters, one) {
			count++
		}
	}
	if 2*count > len(m.members()) {
		m.win()
	}
}

func (m *model) win() {
	m.become("leader", m.id)
	for node := range m.peers {
		m.peers[node].next = m.lastIndex() + 1
	}
	m.add(api.Entry{Kind: api.ENoop})
}

func (m *model) add(e api.Entry) api.Entry {
	index, term := m.last()
	e.Index, e.Term = index+1, m.term
	if e.Term < term {
		e.Term = term
	}
	m.entries = append(m.entries, e)
	m.out.Recs = append(m.out.Recs, api.Rec{Kind: api.RecEntry, Entry: e})
	m.commits()
	return e
}

func (m *model) commits() {
	level := m.level(func(node uint8) uint64 {
		if node == m.id {
			return m.lastIndex()
		}
		return m.peers[node].match
	})
	if term, _ := m.termAt(level); level > m.commit && term == m.term {
		m.commit = level
	}
	if _, since := m.membersAt(1<<64 - 1); since <= m.commit && !m.isMember() {
		m.become("follower", 0)
	}
}

func (m *model) ownIsCommitted() bool {
	term, _ := m.termAt(m.commit)
	return term == m.term
}

// acknowledged outputs the reads whose round a majority acknowledged.
func (m *model) acknowledged() {
	if m.role != "leader" {
		return
	}
	round := m.level(func(node uint8) uint64 {
		if node == m.id {
			return m.round
		}
		return m.peers[node].round
	})
	var left []asked
	for _, r := range m.list {
		if r.isBegun && r.Round <= round {
			m.out.Reads = append(m.out.Reads, r.Read)
		} else {
			left = append(left, r)
		}
	}
	m.list = left
}

// step is what a call outputs.
func (m *model) step(do func()) raft.Out {
	m.out = raft.Out{}
	leads, term := m.role == "leader", m.term
	do()
	if leads && (m.role != "leader" || m.term != term) {
		m.out.Lost = true
	}
	return m.out
}

func (m *model) tick(wait int) raft.Out {
	return m.step(func() {
		if m.role == "leader" {
			m.roundOfLeader()
			return
		}
		m.elapsed++
		if m.elapsed >= m.wait && m.isMember() {
			m.stand(wait)
		}
	})
}

func (m *model) roundOfLeader() {
	if m.ownIsCommitted() {
		for i := range m.list {
			if !m.list[i].isBegun {
				m.list[i] = asked{reads.Read{Id: m.list[i].Id, Index: m.commit, Round: m.round + 1}, true}
			}
		}
	}
	m.round++
	for _, node := range m.others() {
		p := &m.peers[node]
		if !p.sends && p.next <= m.snap.Index {
			p.sends, p.snap, p.due = true, m.snap, 0
		}
		if p.sends {
			m.say(api.Msg{Kind: api.MSection, To: node, Index: p.snap.Index, LogTerm: p.snap.Term, Members: p.snap.Members, Section: uint8(p.due), Body: p.snap.Sections[p.due], Commit: m.commit, Round: m.round})
			continue
		}
		term, _ := m.termAt(p.next - 1)
		msg := api.Msg{Kind: api.MAppend, To: node, Index: p.next - 1, LogTerm: term, Commit: m.commit, Round: m.round}
		for _, e := range m.entries {
			if e.Index >= p.next && len(msg.Entries) < 8 {
				msg.Entries = append(msg.Entries, e)
			}
		}
		m.say(msg)
	}
	m.acknowledged()
}

func (m *model) hear(x api.Msg, wait int) raft.Out {
	return m.step(func() {
		if x.To != m.id || x.From == m.id || x.From < 1 || x.From > 5 || x.Kind < 1 || x.Kind > 7 {
			return
		}
		if x.Term < m.term {
			switch x.Kind {
			case api.MVote:
				m.say(api.Msg{Kind: api.MVoteTell, To: x.From})
			case api.MAppend, api.MSection:
				m.say(api.Msg{Kind: api.MAppTell, To: x.From})
			}
			return
		}
		if x.Term > m.term {
			m.enter(x.Term)
		}
		m.hearKind(x, wait)
	})
}

func (m *model) hearKind(x api.Msg, wait int) {
	leads := m.role == "leader"
	switch {
	case x.Kind == api.MVote:
		m.hearVote(x, wait)
	case x.Kind == api.MVoteTell && x.OK && m.role == "candidate":
		m.hasVote(x.From)
	case x.Kind == api.MAppend && !leads:
		m.become("follower", x.From)
		m.elapsed, m.wait = 0, limited(wait)
		m.hearAppend(x)
	case x.Kind == api.MAppTell && leads:
		m.hearAppTell(x)
	case x.Kind == api.MSection && !leads:
		m.become("follower", x.From)
		m.elapsed, m.wait = 0, limited(wait)
		m.hearSection(x)
	case x.Kind == api.MSecTell && leads:
		p := &m.peers[x.From]
		if p.sends && p.snap.Index == x.Index && x.Section <= 4 {
			p.due = int(x.Section)
		}
		p.round = max(p.round, x.Round)
		m.commits()
		m.acknowledged()
	case x.Kind == api.MStandNow && !leads && m.isMember():
		m.stand(wait)
	}
}

func (m *model) hearVote(x api.Msg, wait int) {
	index, term := m.last()
	isAsNew := x.LogTerm > term || x.LogTerm == term && x.Index >= index
	ok := m.role != "leader" && (m.vote == 0 || m.vote == x.From) && isAsNew
	if ok {
		if m.vote != x.From {
			m.vote = x.From
			m.state()
		}
		m.elapsed, m.wait = 0, limited(wait)
	}
	m.say(api.Msg{Kind: api.MVoteTell, To: x.From, OK: ok})
}

func (m *model) hearAppend(x api.Msg) {
	conflict := false
	for _, e := range x.Entries {
		if term, ok := m.termAt(e.Index); ok && e.Index <= m.commit && term != e.Term {
			conflict = true
		}
	}
	answer := api.Msg{Kind: api.MAppTell, To: x.From, Round: x.Round}
	if conflict || !m.put(x, &answer) && x.Index >= m.snap.Index {
		if x.Index > 0 {
			answer.Index = x.Index - 1
		}
		if answer.Index > m.lastIndex() {
			answer.Index = m.lastIndex()
		}
		m.say(answer)
		return
	}
	answer.OK = true
	if answer.Index < m.snap.Index {
		answer.Index = m.snap.Index
	}
	if up := min(x.Commit, answer.Index); up > m.commit {
		m.commit = up
	}
	m.say(answer)
}

// put is P11.4's Put; if it returns true, the answer's Index is the match.
func (m *model) put(x api.Msg, answer *api.Msg) bool {
	index, term, meets := x.Index, x.LogTerm, false
	for _, e := range x.Entries {
		if e.Index != index+1 || e.Term < term {
			return false
		}
		index, term = e.Index, e.Term
		meets = meets || index == m.snap.Index && term == m.snap.Term
	}
	own, ok := m.termAt(x.Index)
	if x.Index >= m.snap.Index && !(ok && own == x.LogTerm) || x.Index < m.snap.Index && !meets {
		return false
	}
	for _, e := range x.Entries {
		own, ok := m.termAt(e.Index)
		if e.Index <= m.snap.Index || ok && own == e.Term {
			continue
		}
		m.entries = append(slices.Clone(m.entries[:e.Index-m.snap.Index-1]), e)
		m.out.Recs = append(m.out.Recs, api.Rec{Kind: api.RecEntry, Entry: e})
	}
	answer.Index = index
	return true
}

func (m *model) hearAppTell(x api.Msg) {
	p := &m.peers[x.From]
	index := x.Index
	if index > m.lastIndex() {
		index = m.lastIndex()
	}
	p.round = max(p.round, x.Round)
	if x.OK {
		p.match = max(p.match, index)
		p.next = max(p.next, p.match+1)
		if p.sends && p.match >= p.snap.Index {
			p.sends, p.snap, p.due = false, api.Snap{}, 0
		}
	} else {
		p.next = max(min(p.next, index+1), p.match+1)
	}
	m.commits()
	m.acknowledged()
	if m.target == x.From {
		m.handOver()
	}
}

func (m *model) handOver() {
	if m.peers[m.target].match == m.lastIndex() {
		m.say(api.Msg{Kind: api.MStandNow, To: m.target})
		m.target = 0
	}
}

func (m *model) hearSection(x api.Msg) {
	answer := api.Msg{Kind: api.MAppTell, To: x.From, OK: true, Index: x.Index, Round: x.Round}
	if x.Index <= m.commit {
		m.say(answer)
		return
	}
	if m.part.Index != x.Index || m.part.Term != x.LogTerm || m.part.Members != x.Members {
		m.part, m.parts = api.Snap{Index: x.Index, Term: x.LogTerm, Members: x.Members}, nil
	}
	if x.Section <= 4 {
		m.part.Sections[x.Section] = x.Body
		m.parts = append(m.parts, int(x.Section))
	}
	for section := range 5 {
		if !slices.Contains(m.parts, section) {
			answer.Kind, answer.OK, answer.Section = api.MSecTell, false, uint8(section)
			m.say(answer)
			return
		}
	}
	m.out.Install, m.out.Snap = true, m.part
	m.resetTo(m.part)
	m.part, m.parts = api.Snap{}, nil
	m.say(answer)
}

func (m *model) resetTo(snap api.Snap) {
	var kept []api.Entry
	if term, ok := m.termAt(snap.Index); ok && term == snap.Term {
		kept = m.entriesAfter(snap.Index)
	}
	m.snap, m.entries, m.commit = snap, kept, snap.Index
}

func (m *model) entriesAfter(index uint64) []api.Entry {
	var after []api.Entry
	for _, e := range m.entries {
		if e.Index > index {
			after = append(after, e)
		}
	}
	return after
}

func (m *model) propose(e api.Entry) (api.Entry, raft.Out, bool) {
	if m.role != "leader" {
		return api.Entry{}, raft.Out{}, false
	}
	o := m.step(func() { e = m.add(e) })
	return e, o, true
}

func (m *model) change(members uint8) (api.Entry, raft.Out, uint8) {
	newest, since := m.membersAt(1<<64 - 1)
	if m.role != "leader" || !m.ownIsCommitted() || since > m.commit {
		return api.Entry{}, raft.Out{}, api.RConflict
	}
	differ := 0
	for node := uint8(1); node <= 5; node++ {
		if slices.Contains(nodesOf(newest), node) != slices.Contains(nodesOf(members), node) {
			differ++
		}
	}
	if members == 0 || members == newest || members > 31 || differ > 1 {
		return api.Entry{}, raft.Out{}, api.RWrong
	}
	e, o, _ := m.propose(api.Entry{Kind: api.EConf, Body: string([]byte{members})})
	return e, o, api.ROK
}

func (m *model) leadTo(to uint8) (raft.Out, bool) {
	if m.role != "leader" || !slices.Contains(m.others(), to) {
		return raft.Out{}, false
	}
	return m.step(func() {
		m.target = to
		m.handOver()
	}), true
}

func (m *model) read(id uint64) bool {
	if m.role != "leader" || slices.ContainsFunc(m.list, func(r asked) bool { return r.Id == id }) {
		return false
	}
	m.list = append(m.list, asked{Read: reads.Read{Id: id}})
	return true
}

func (m *model) cut(snap api.Snap) api.Errno {
	if snap.Index <= m.snap.Index {
		return api.ErrOld
	}
	if snap.Index > m.commit {
		return api.ErrNone
	}
	term, _ := m.termAt(snap.Index)
	members, _ := m.membersAt(snap.Index)
	if term != snap.Term || members != snap.Members {
		return api.ErrArg
	}
	m.entries = m.entriesAfter(snap.Index)
	m.snap = snap
	return api.OK
}

func (m *model) left() int {
	if m.role == "leader" || m.elapsed > m.wait {
		return 0
	}
	return m.wait - m.elapsed
}

func (m *model) matchOf(node uint8) uint64 {
	if m.role != "leader" || node < 1 || node > 5 || node == m.id {
		return 0
	}
	return m.peers[node].match
}
