package board

import (
	"pomander/api"
	"pomander/words"
)

// Ports; some are for in, some for out, some for both.
const (
	typedPort = iota
	consolePort
	timePort
	alarmPort
	maskPort
	diskPort
	diskAnswerPort
	receivePort
	netAnswerPort
	sendPort
)

// nothing is told where no byte waits, and where the net's command comes to nothing.
const nothing = 1<<32 - 1

// What the disk answers.
const (
	wentWell = iota
	wentWrong
)

// What the third word of the disk's command asks for.
const (
	fromDisk = iota
	toDisk
)

// How many words commands have.
const (
	diskWords = 3
	netWords  = 2
)

// ins are the ports that tell something: what, and the places that it came from.
func (s *stepping) ins() map[int]func() (uint32, []api.Place) {
	return map[int]func() (uint32, []api.Place){
		typedPort:      s.takeTyped,
		consolePort:    s.countTyped,
		timePort:       s.tellTime,
		maskPort:       s.tellMask,
		diskAnswerPort: s.takeDiskAnswer,
		netAnswerPort:  s.tellNetAnswer,
	}
}

// outs are the ports that do something with a value.
func (s *stepping) outs() map[int]func(value uint32) {
	return map[int]func(value uint32){
		consolePort: s.tell,
		alarmPort:   s.setAlarm,
		maskPort:    s.setMask,
		diskPort:    s.moveSector,
		receivePort: s.receive,
		sendPort:    s.send,
	}
}

// in tells what a port tells.
func (s *stepping) in(port int) uint32 {
	var value uint32
	var from []api.Place
	if tell, is := s.ins()[port]; is {
		value, from = tell()
	}
	s.give(s.a, from...)
	return value
}

// out does what a port does.
func (s *stepping) out(port int, value uint32) {
	if do, is := s.outs()[port]; is {
		do(value)
	}
}

func (s *stepping) takeTyped() (uint32, []api.Place) {
	typed, number, is := s.lines.Take()
	if !is {
		return nothing, nil
	}
	return uint32(typed), row(api.PlaceIn, number, 1)
}

func (s *stepping) countTyped() (uint32, []api.Place) { return uint32(s.lines.Waits()), nil }

func (s *stepping) tellTime() (uint32, []api.Place) { return uint32(s.now), nil }

func (s *stepping) tellMask() (uint32, []api.Place) {
	return s.lines.Mask(), []api.Place{alone(api.PlaceMask)}
}

func (s *stepping) takeDiskAnswer() (uint32, []api.Place) {
	s.lines.Raise(diskLine, false)
	return s.answers[diskAsk], row(api.PlaceAsk, diskAsk, 1)
}

func (s *stepping) tellNetAnswer() (uint32, []api.Place) {
	return s.answers[netAsk], row(api.PlaceAsk, netAsk, 1)
}

func (s *stepping) tell(value uint32) {
	number := s.lines.Tell(words.Byte(value, 0))
	s.give(place(api.PlaceOut, number), s.a)
}

func (s *stepping) setAlarm(value uint32) {
	s.lines.SetAlarm(value)
	s.give(alone(api.PlaceAlarm), s.a)
}

func (s *stepping) setMask(value uint32) {
	s.lines.SetMask(value)
	s.give(alone(api.PlaceMask), s.a)
}

// moveSector is the disk's command.
func (s *stepping) moveSector(at uint32) {
	answer := uint32(wentWrong)
	if command, whole := s.command(at, diskWords); whole && s.moved(int(command[0]), command[1], command[2]) {
		answer = wentWell
	}
	s.answer(diskAsk, answer)
	s.lines.Raise(diskLine, true)
}

// moved moves a sector's bytes one way or the other; false, if they can't be.
func (s *stepping) moved(sector int, at, way uint32) bool {
	content, refusal := s.disk.Read(sector)
	if refusal != api.OK || !s.has(at, api.PageBytes) || at%api.PageBytes != 0 {
		return false
	}
	there, here := place(api.PlaceSector, sector*api.PageBytes), place(api.PlaceMem, int(at))
	switch way {
	case fromDisk:
		s.memory.Load(at, content[:])
		s.put(here, there, api.PageBytes)
	case toDisk:
		s.disk.Write(sector, s.page(at))
		s.put(there, here, api.PageBytes)
	default:
		return false
	}
	return true
}

// receive is the net's command that takes a packet.
func (s *stepping) receive(at uint32) {
	answer := uint32(nothing)
	packet, first, waits := s.net.Next()
	if command, whole := s.command(at, netWords); whole && waits && s.has(command[0], command[1]) {
		answer = min(uint32(len(packet)), command[1])
		s.memory.Load(command[0], packet[:answer])
		s.put(place(api.PlaceMem, int(command[0])), place(api.PlacePacket, first), int(answer))
		s.net.Take()
		s.raiseNet()
	}
	s.answer(netAsk, answer)
}

// send is the net's command that sends one.
func (s *stepping) send(at uint32) {
	answer := uint32(nothing)
	if command, whole := s.command(at, netWords); whole && command[1] <= api.MaxPacket && s.has(command[0], command[1]) {
		var packet []byte
		for _, one := range s.bytes(command[0], command[1]) {
			packet = append(packet, one)
		}
		first, _ := s.net.Send(packet)
		s.put(place(api.PlaceSent, first), place(api.PlaceMem, int(command[0])), len(packet))
		answer = command[1]
	}
	s.answer(netAsk, answer)
}

// command tells the words of a command; false, if not all of them are in memory. Those that are decide.
func (s *stepping) command(at uint32, many int) ([]uint32, bool) {
	var command []uint32
	var from []api.Place
	for n := range uint32(many) {
		// Asked from the command's beginning on, as its addresses do not come round: behind a word that is not in memory none is.
		if !s.has(at, wordBytes*(n+1)) {
			break
		}
		here := at + wordBytes*n
		command = append(command, s.word(here))
		from = append(from, row(api.PlaceMem, int(here), wordBytes)...)
	}
	if len(from) > 0 {
		s.decide(from...)
	}
	return command, len(command) == many
}

// put tells that n bytes are what others were, one by one.
func (s *stepping) put(to, from api.Place, n int) {
	for behind := range n {
		s.give(place(to.Kind, to.N+behind), place(from.Kind, from.N+behind))
	}
}

// answer lets the disk, the net answer a command; what the answer is hangs on nothing but what decides.
func (s *stepping) answer(who int, answer uint32) {
	s.answers[who] = answer
	s.give(place(api.PlaceAsk, who))
}
