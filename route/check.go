package route

import (
	"slices"

	"watchfire/api"
	"watchfire/label"
	"watchfire/match"
)

// Check tells whether a configuration may be.
func Check(c api.Config) api.Errno {
	if len(c.Routes) > api.MaxRoutes || len(c.Rules) > api.MaxRules {
		return api.ErrLong
	}
	if !isTree(c.Routes) {
		return api.ErrRoute
	}
	for _, r := range c.Routes {
		if err := checkRoute(r); err != api.OK {
			return err
		}
	}
	for _, r := range c.Rules {
		if err := checkRule(r); err != api.OK {
			return err
		}
	}
	if !isSpan(c.PeerTimeout) || !isSpan(c.Resolve) {
		return api.ErrTime
	}
	return api.OK
}

// isTree tells whether routes are one tree, each behind its parent, whose first one takes all labels.
func isTree(l []api.Route) bool {
	if len(l) == 0 || l[0].Parent != -1 || len(l[0].Matchers) > 0 {
		return false
	}
	for i := 1; i < len(l); i++ {
		if l[i].Parent < 0 || l[i].Parent >= i {
			return false
		}
	}
	return true
}

func checkRoute(r api.Route) api.Errno {
	if err := match.CheckAll(r.Matchers); err != api.OK {
		return err
	}
	if err := checkNames(r.By); err != api.OK {
		return err
	}
	if !label.Name(r.Receiver) {
		return api.ErrName
	}
	// A wait may be none at all, which is no span.
	if r.Wait != 0 && !isSpan(r.Wait) || !isSpan(r.Interval) || !isSpan(r.Repeat) {
		return api.ErrTime
	}
	return api.OK
}

func checkRule(r api.Rule) api.Errno {
	if err := match.CheckAll(r.Source); err != api.OK {
		return err
	}
	if err := match.CheckAll(r.Target); err != api.OK {
		return err
	}
	return checkNames(r.Equal)
}

// checkNames tells whether texts are names, each there once.
func checkNames(l []string) api.Errno {
	if len(l) > api.MaxNames {
		return api.ErrLong
	}
	for i, name := range l {
		if !label.Name(name) || slices.Contains(l[:i], name) {
			return api.ErrName
		}
	}
	return api.OK
}

// isSpan tells whether so many ticks may be from one time to another.
func isSpan(ticks int) bool { return ticks >= 1 && ticks <= api.MaxTime }
