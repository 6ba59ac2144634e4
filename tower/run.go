package tower

import (
	"pomander/api"
	"pomander/board"
)

// mostSteps is how many steps a run may have.
const mostSteps = 65536

// outcome is what a step came to: it is done, or the run ends ahead of it.
type outcome int

const (
	done outcome = iota
	halted
	stopped
	full
)

// Run does steps.
func (t *Tower) Run(n int) (ran api.Ran, refusal api.Errno) {
	if refusal = t.refusesRun(n); refusal != api.OK {
		return ran, refusal
	}
	ahead := t.ahead()
steps:
	for ran.Steps < n {
		step, alerts, came := t.try(ahead)
		switch came {
		case halted:
			ran.Why = api.RanHalted
			break steps
		case stopped:
			ran.Why = api.RanStopped
			break steps
		case full:
			ran.Why = api.RanFull
			break steps
		}
		ran.Steps++
		ran.Kind, ran.Pc, ran.Word, ran.Cause = step.Kind, step.Pc, step.Word, step.Cause
		ran.Alerts = append(ran.Alerts, alerts...)
	}
	t.follow(ahead, ran)
	return ran, api.OK
}

// refusesRun tells why so many steps can't be done.
func (t *Tower) refusesRun(n int) api.Errno {
	switch {
	case t.none():
		return api.ErrNil
	case n < 0 || n > mostSteps:
		return api.ErrArg
	}
	return api.OK
}

// ahead tells the board that steps are tried on. If sets are kept it is another one than the tower's own: whether a step is to be done is known by its touches, and these behind it alone.
func (t *Tower) ahead() *board.Board {
	if t.tracks() {
		return t.board.Copy()
	}
	return t.board
}

// try tries a step of a board; of one that is done sets have moved.
func (t *Tower) try(ahead *board.Board) (step api.Stepped, alerts []api.Alert, came outcome) {
	now := ahead.Now()
	step, _ = ahead.Step()
	switch {
	case step.Kind == api.StepHalted:
		came = halted
	case t.tracks():
		alerts, came = t.move(now, step.Touches)
	}
	return step, alerts, came
}

// move lets sets go where a step's touches lead them, unless it is not to be done. A step is done also where the history has no room for what it touched.
func (t *Tower) move(now int64, touches []api.Touch) (alerts []api.Alert, came outcome) {
	if stops, _ := t.policy.Stops(t.flow, touches...); stops {
		return nil, stopped
	}
	alerts, _ = t.policy.Alerts(t.flow, touches...) // over the flow as it is ahead of the step
	if refusal := t.flow.Apply(touches...); refusal != api.OK {
		return nil, full
	}
	t.history.Add(now, touches...)
	return alerts, done
}

// follow lets the tower's board come to where the one ahead is. One that tried a step which is not to be done is ahead too far: then the tower's own does again the steps that are.
func (t *Tower) follow(ahead *board.Board, ran api.Ran) {
	if ran.Why == api.RanOut || ran.Why == api.RanHalted {
		t.board = ahead
		return
	}
	for range ran.Steps {
		t.board.Step()
	}
}
