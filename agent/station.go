package agent

import (
	"slices"

	"tollbridge/api"
	"tollbridge/message"
	"tollbridge/pipeline"
)

// station is a switch, and what it is asked for that it does not tell itself.
type station struct {
	sw    *pipeline.Switch
	id    uint16
	ports []uint16 // all of them, rising
	edge  []uint16 // rising
}

// deed is what is done at a message of some Type. The Ids of what it answers
// are left to those who call it.
type deed struct {
	do func(s *station, m api.Message) []api.Message
}

// deeds go by Types; messages of the others are not for a switch.
func deeds() map[int8]deed {
	return map[int8]deed{
		api.MsgHello:   {(*station).features},
		api.MsgAsk:     {(*station).features},
		api.MsgEcho:    {func(*station, api.Message) []api.Message { return bare(api.MsgEchoed) }},
		api.MsgRule:    {(*station).rule},
		api.MsgOut:     {(*station).out},
		api.MsgBarrier: {func(*station, api.Message) []api.Message { return bare(api.MsgBarred) }},
		api.MsgStats:   {(*station).stats},
		api.MsgEchoed:  {func(*station, api.Message) []api.Message { return nil }},
	}
}

func (s *station) answers(m api.Message) []api.Message {
	d, there := deeds()[m.Type]
	if !there || message.Check(m) != api.OK {
		return unless(api.ErrMessage)
	}
	return d.do(s, m)
}

func (s *station) features(api.Message) []api.Message {
	return []api.Message{{
		Type:   api.MsgFeatures,
		Switch: s.id,
		Ports:  slices.Clone(s.ports),
		Edge:   slices.Clone(s.edge),
	}}
}

func (s *station) rule(m api.Message) []api.Message {
	_, fault := s.sw.Rule(m.Do, m.Rule)
	return unless(fault)
}

func (s *station) out(m api.Message) []api.Message {
	return unless(s.sw.Send(m.Port, m.Frame))
}

func (s *station) stats(api.Message) []api.Message {
	return stated(s.sw.Helds())
}

// unless answers an error, if there is one.
func unless(fault api.Errno) []api.Message {
	if fault == api.OK {
		return nil
	}
	return []api.Message{{Type: api.MsgError, Code: uint16(fault)}}
}

// bare is a message of which nothing but its Type counts.
func bare(kind int8) []api.Message {
	return []api.Message{{Type: kind}}
}
