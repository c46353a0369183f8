package shape

import (
	"alibi/api"
	"alibi/record"
)

// rule is one, with what tells whether a record offends it behind those that a machine had.
type rule struct {
	rule    api.Rule
	offends func(m *Machine, r record.Record) bool
}

// rules are all, the lowest one first. Each is asked only of records that offend none ahead of it.
func rules() [12]rule {
	return [12]rule{
		{api.Kind, (*Machine).noKind},
		{api.Payload, (*Machine).notRight},
		{api.Zero, (*Machine).zero},
		{api.Begun, (*Machine).again},
		{api.Absent, (*Machine).absent},
		{api.Ended, (*Machine).ended},
		{api.NoVersion, (*Machine).noVersion},
		{api.NotOwn, (*Machine).notOwn},
		{api.Rise, (*Machine).noRise},
		{api.NoEntry, (*Machine).noEntry},
		{api.OwnEntry, (*Machine).lacksOwn},
		{api.Match, (*Machine).wrongMatch},
	}
}

func (m *Machine) noKind(r record.Record) bool {
	return r.Kind < record.Begin || r.Kind > record.Abort
}

func (m *Machine) notRight(r record.Record) bool { return !record.Right(r) }

func (m *Machine) zero(r record.Record) bool { return r.T == 0 }

func (m *Machine) again(r record.Record) bool {
	_, begun := m.begun[r.T]
	return r.Kind == record.Begin && begun
}

func (m *Machine) absent(r record.Record) bool {
	_, begun := m.begun[r.T]
	return r.Kind != record.Begin && !begun
}

func (m *Machine) ended(r record.Record) bool {
	_, begun := m.begun[r.T]
	_, open := m.open[r.T]
	return begun && !open
}

func (m *Machine) noVersion(r record.Record) bool {
	return r.Kind == record.Read && !m.there(r.X, r.V)
}

func (m *Machine) notOwn(r record.Record) bool {
	own, ok := m.latest(r.T, r.X)
	return r.Kind == record.Read && ok && r.V != own
}

// From here on: what is asked of entries, which only a Pred has.

func (m *Machine) noRise(r record.Record) bool {
	for i := 1; i < len(r.Entries); i++ {
		if r.Entries[i].X <= r.Entries[i-1].X {
			return true
		}
	}
	return false
}

func (m *Machine) noEntry(r record.Record) bool {
	for _, e := range r.Entries {
		if !m.there(e.X, e.V) {
			return true
		}
	}
	return false
}

// lacksOwn counts, as no two entries that rise have one object.
func (m *Machine) lacksOwn(r record.Record) bool {
	n := 0
	for _, e := range r.Entries {
		if own, ok := m.latest(r.T, e.X); ok && e.V == own {
			n++
		}
	}
	return r.Kind == record.Pred && n < len(m.objects[r.T])
}

func (m *Machine) wrongMatch(r record.Record) bool {
	for _, e := range r.Entries {
		if e.M != m.matches(r.P, e.X, e.V) {
			return true
		}
	}
	return false
}
