package engine

import (
	"tideline/api"
	"tideline/job"
)

// due are the jobs that are.
func (x *Engine) due() []string {
	defer x.b.Abort()
	l, _ := job.Due(x.b, x.c, x.clock)
	return l
}

// runOne runs a job.
func (x *Engine) runOne(name string) api.Errno {
	_, code := job.Run(x.b, x.c, name, x.clock)
	return code
}
