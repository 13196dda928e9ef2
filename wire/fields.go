package wire

import "terrace/api"

// field is one of a packet's: how it is put to bytes and got from them, whether it is within its bounds, and how it is taken out of a packet.
type field struct {
	put  func(p *Packet, w *writer)
	get  func(p *Packet, r *reader)
	fits func(p *Packet) bool
	drop func(p *Packet)
}

// fieldsOf are those that a Kind uses, in the order of its bytes; none, if it is no Kind.
func fieldsOf(kind int) []field {
	switch kind {
	case Data:
		return []field{layerField(), seqField(), blockField(), tickField(), dataField()}
	case Repair:
		return []field{seqField(), blockField(), tickField(), dataField()}
	case Marker:
		return []field{layerField(), seqField(), tickField(), rateField(), ratesField(), fromField()}
	case Report:
		return []field{fromField(), levelField(), tickField(), echoField(), rateField(), nField()}
	case Nak:
		return []field{fromField(), rangesField()}
	case Announce:
		return []field{nField(), layerField(), levelField(), tickField()}
	case End:
		return []field{nField(), tickField()}
	}
	return nil
}

// numberField is a whole number from 0 to top, at a place in the packet.
func numberField(place func(p *Packet) *int, top int) field {
	return field{
		put:  func(p *Packet, w *writer) { w.number(*place(p)) },
		get:  func(p *Packet, r *reader) { *place(p) = r.number() },
		fits: func(p *Packet) bool { return 0 <= *place(p) && *place(p) <= top },
		drop: func(p *Packet) { *place(p) = 0 },
	}
}

func fromField() field {
	return numberField(func(p *Packet) *int { return &p.From }, api.MaxReceivers-1)
}

func layerField() field {
	return numberField(func(p *Packet) *int { return &p.Layer }, api.MaxLayers-1)
}

func levelField() field {
	return numberField(func(p *Packet) *int { return &p.Level }, api.MaxLayers-1)
}

func blockField() field {
	return numberField(func(p *Packet) *int { return &p.Block }, api.MaxObject-1)
}

func tickField() field {
	return numberField(func(p *Packet) *int { return &p.Tick }, api.MaxTick)
}

func echoField() field {
	return numberField(func(p *Packet) *int { return &p.Echo }, api.MaxTick)
}

func nField() field {
	return numberField(func(p *Packet) *int { return &p.N }, api.MaxObject)
}

func seqField() field {
	return field{
		put:  func(p *Packet, w *writer) { w.seq(p.Seq) },
		get:  func(p *Packet, r *reader) { p.Seq = r.seq() },
		fits: func(p *Packet) bool { return true },
		drop: func(p *Packet) { p.Seq = 0 },
	}
}

func rateField() field {
	return field{
		put:  func(p *Packet, w *writer) { w.rate(p.Rate) },
		get:  func(p *Packet, r *reader) { p.Rate = r.rate() },
		fits: func(p *Packet) bool { return true },
		drop: func(p *Packet) { p.Rate = 0 },
	}
}

func ratesField() field {
	return field{
		put:  func(p *Packet, w *writer) { putList(w, p.Rates, w.rate) },
		get:  func(p *Packet, r *reader) { p.Rates = getList(r, r.rate) },
		fits: func(p *Packet) bool { return oneTo(len(p.Rates), api.MaxLayers) },
		drop: func(p *Packet) { p.Rates = nil },
	}
}

func rangesField() field {
	return field{
		put:  func(p *Packet, w *writer) { putList(w, p.Ranges, w.pair) },
		get:  func(p *Packet, r *reader) { p.Ranges = getList(r, r.pair) },
		fits: func(p *Packet) bool { return oneTo(len(p.Ranges), api.MaxRanges) && apart(p.Ranges) },
		drop: func(p *Packet) { p.Ranges = nil },
	}
}

func dataField() field {
	return field{
		put:  func(p *Packet, w *writer) { putList(w, p.Data, w.octet) },
		get:  func(p *Packet, r *reader) { p.Data = getList(r, r.octet) },
		fits: func(p *Packet) bool { return oneTo(len(p.Data), api.MaxBlock) },
		drop: func(p *Packet) { p.Data = nil },
	}
}

// oneTo tells whether a list of n things has at least one, and at most top.
func oneTo(n, top int) bool { return 1 <= n && n <= top }

// apart tells whether ranges rise, none of them empty and no two of them touching, within an object.
func apart(ranges [][2]int) bool {
	// So the first one may begin at 0.
	ahead := -1
	for _, r := range ranges {
		if r[0] <= ahead || r[1] <= r[0] || r[1] > api.MaxObject {
			return false
		}
		ahead = r[1]
	}
	return true
}
