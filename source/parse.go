package source

import (
	"dateline/api"
	"dateline/fault"
)

// parser of a text: the source that it has said so far, and whether an era must come next.
type parser struct {
	api.Source
	inZone bool
}

func (p *parser) text(lines []api.Line) {
	for _, l := range lines {
		p.line(l.Inner, &row{number: l.Number, fields: l.Fields})
	}
	fault.Require(!p.inZone, 0, api.ErrForm)
	errno := Check(p.Source)
	fault.Require(errno == api.OK, 0, errno)
}

func (p *parser) line(isInner bool, r *row) {
	r.require(isInner == p.inZone)
	if p.inZone {
		p.era(r)
		return
	}
	switch r.word() {
	case "Rule":
		p.Rules = append(p.Rules, r.rule())
	case "Zone":
		p.Zones = append(p.Zones, api.Zone{Name: r.name()})
		p.era(r)
	case "Link":
		p.Links = append(p.Links, r.link())
	default:
		r.require(false)
	}
}

// era of the last zone.
func (p *parser) era(r *row) {
	e := r.era()
	zone := &p.Zones[len(p.Zones)-1]
	zone.Eras = append(zone.Eras, e)
	p.inZone = !e.Open
}
