package play

import (
	"strconv"
	"strings"

	"tideline/api"
	"tideline/disk"
	"tideline/engine"
	"tideline/value"
)

// player has a disk and an engine, and what was told.
type player struct {
	d    *disk.Disk
	x    *engine.Engine
	told strings.Builder
	// lines are what a command tells, if it goes well.
	lines []string
}

// Run is what a script comes to, told.
func Run(text string) (string, int, api.Errno) {
	l, line, code := Parse(text)
	if code != api.OK {
		return "", line, code
	}
	list := forms()
	p := &player{}
	for i, c := range l {
		f, _ := find(list, func(f form) bool { return f.op == c.Op })
		p.lines = nil
		code := f.do(p, c)
		p.told.WriteString(strconv.Itoa(i+1) + numbers(int(code)) + "\n")
		if code != api.OK && c.Op != 'r' {
			continue
		}
		for _, s := range p.lines {
			p.told.WriteString("  " + s + "\n")
		}
	}
	return p.told.String(), 0, api.OK
}

// line tells words, with a blank between.
func (p *player) line(words ...string) {
	p.lines = append(p.lines, strings.Join(words, " "))
}

// count tells words, and numbers behind them.
func count(word string, l ...int64) string {
	for _, n := range l {
		word += " " + strconv.FormatInt(n, 10)
	}
	return word
}

func decimal(n int64) string { return strconv.FormatInt(n, 10) }

func (p *player) disk(c Cmd) api.Errno {
	d, code := disk.New(c.Nums[0])
	if code != api.OK {
		return code
	}
	x, code := engine.Open(d)
	if code != api.OK {
		return code
	}
	p.d, p.x = d, x
	return api.OK
}

// typed is the word of a column's type.
func typed(kind uint8) string {
	switch kind {
	case api.Int:
		return "INT"
	case api.Bool:
		return "BOOL"
	}
	return "TEXT"
}

func (p *player) sql(c Cmd) api.Errno {
	r, code := p.x.Exec(c.Text)
	p.line(decimal(r.Count))
	if len(r.Cols) > 0 {
		var l []string
		for _, c := range r.Cols {
			l = append(l, c.Name+" "+typed(c.Type))
		}
		p.line(strings.Join(l, ", "))
	}
	p.rows(r.Rows)
	return code
}

func (p *player) rows(rows [][]api.Value) {
	for _, r := range rows {
		p.line(value.Line(r))
	}
}

func (p *player) tick(c Cmd) api.Errno { return p.x.Tick(int64(c.Nums[0])) }

func (p *player) run(c Cmd) api.Errno {
	l, code := p.x.Run()
	for _, r := range l {
		p.line(count(r.Name, int64(r.Code), r.Count))
	}
	return code
}

func (p *player) clock(c Cmd) api.Errno {
	if p.x == nil {
		return api.ErrNil
	}
	p.line(decimal(p.x.Clock()))
	return api.OK
}

func (p *player) state(c Cmd) api.Errno {
	s, code := p.x.State()
	p.line(count("clock", s.Clock))
	for _, t := range s.Tables {
		p.line(count("table "+t.Name, int64(len(t.Rows))))
		p.line(t.Def)
		p.rows(t.Rows)
	}
	for _, v := range s.Views {
		p.line(count("view "+v.Name, v.Mark, int64(len(v.Fresh)), int64(len(v.Rows))))
		p.line(v.Def)
		for _, f := range v.Fresh {
			p.line(decimal(f.From), decimal(f.To))
		}
		p.rows(v.Rows)
	}
	for _, j := range s.Jobs {
		p.line(count("job "+j.Name, j.Next))
		p.line(j.Def)
	}
	return code
}

func (p *player) fuse(c Cmd) api.Errno {
	if p.d == nil {
		return api.ErrNil
	}
	p.d.Fuse(c.Nums[0])
	return api.OK
}

func (p *player) kill(c Cmd) api.Errno {
	if p.d == nil {
		return api.ErrNil
	}
	p.d.Kill()
	return api.OK
}

func (p *player) start(c Cmd) api.Errno {
	if p.d == nil {
		return api.ErrNil
	}
	p.d.Restart(c.Nums)
	return p.open(c)
}

func (p *player) open(c Cmd) api.Errno {
	x, code := engine.Open(p.d)
	p.x = x
	return code
}
