package message

import "tollbridge/api"

// part is one of the things that stand behind a message's head.
type part struct {
	clear func(m *api.Message)
	write func(w *writer, m *api.Message)
	read  func(c *cursor, m *api.Message)
}

// field is the part that stands for one field of api.Message.
func field[T any](of func(m *api.Message) *T, write func(w *writer, value T), read func(c *cursor) T) part {
	return part{
		clear: func(m *api.Message) {
			var zero T
			*of(m) = zero
		},
		write: func(w *writer, m *api.Message) { write(w, *of(m)) },
		read:  func(c *cursor, m *api.Message) { *of(m) = read(c) },
	}
}

// table has for each Type its parts, in their order.
func table() [types][]part {
	number := field(func(m *api.Message) *uint16 { return &m.Switch }, (*writer).short, (*cursor).short)
	ports := field(func(m *api.Message) *[]uint16 { return &m.Ports }, (*writer).shorts, (*cursor).shorts)
	edge := field(func(m *api.Message) *[]uint16 { return &m.Edge }, (*writer).shorts, (*cursor).shorts)
	do := field(func(m *api.Message) *int8 { return &m.Do }, (*writer).do, (*cursor).do)
	rule := field(func(m *api.Message) *api.Rule { return &m.Rule }, (*writer).rule, (*cursor).rule)
	port := field(func(m *api.Message) *uint16 { return &m.Port }, (*writer).short, (*cursor).short)
	more := field(func(m *api.Message) *uint16 { return &m.Port }, (*writer).more, (*cursor).more)
	frame := field(func(m *api.Message) *[]byte { return &m.Frame }, (*writer).frame, (*cursor).frame)
	helds := field(func(m *api.Message) *[]api.Held { return &m.Helds }, (*writer).helds, (*cursor).helds)
	up := field(func(m *api.Message) *bool { return &m.Up }, (*writer).up, (*cursor).up)
	code := field(func(m *api.Message) *uint16 { return &m.Code }, (*writer).short, (*cursor).short)
	return [types][]part{
		api.MsgFeatures: {number, ports, edge},
		api.MsgRule:     {do, rule},
		api.MsgIn:       {port, frame},
		api.MsgOut:      {port, frame},
		api.MsgStated:   {more, helds},
		api.MsgPort:     {port, up},
		api.MsgError:    {code},
	}
}

func partsOf(kind int8) []part {
	must(kind >= 0 && kind < types)
	return table()[kind]
}
