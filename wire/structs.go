package wire

import (
	"thole/api"
)

// Each function here goes over its struct's fields in the order in which package api names them: that order is the layout.

func (c *coder) version(v *api.Version) { c.numbers(&v.Epoch, &v.N) }

func (c *coder) pg(p *api.Pg) { c.numbers(&p.Pool, &p.Seed) }

func (c *coder) node(n *api.Node) { c.numbers(&n.Kind, &n.Id) }

func (c *coder) texts(l *[]string) { list(c, l, (*coder).text) }

func (c *coder) osd(o *api.Osd) {
	c.truth(&o.Exists)
	c.truth(&o.Up)
	c.numbers(&o.Weight, &o.Boot, &o.UpFrom, &o.UpThru)
}

func (c *coder) pool(p *api.Pool) { c.numbers(&p.Id, &p.Size, &p.Min, &p.Pgs) }

func (c *coder) bucket(b *api.Bucket) {
	c.numbers(&b.Id, &b.Kind)
	list(c, &b.Items, (*coder).number)
	list(c, &b.Weights, (*coder).number)
}

func (c *coder) clusterMap(m *api.Map) {
	c.number(&m.Epoch)
	list(c, &m.Osds, (*coder).osd)
	list(c, &m.Pools, (*coder).pool)
	list(c, &m.Buckets, (*coder).bucket)
	c.number(&m.Leaf)
}

func (c *coder) change(x *api.Change) {
	c.numbers(&x.Kind, &x.Osd, &x.Value)
	c.pool(&x.Pool)
	c.bucket(&x.Bucket)
}

func (c *coder) inc(x *api.Inc) {
	c.number(&x.Epoch)
	list(c, &x.Changes, (*coder).change)
}

func (c *coder) entry(e *api.Entry) {
	c.version(&e.Version)
	c.truth(&e.Remove)
	c.errno(&e.Errno)
	c.text(&e.Name)
	c.numbers(&e.Client, &e.Number)
}

func (c *coder) last(l *api.Last) {
	c.numbers(&l.Client, &l.Number)
	c.errno(&l.Errno)
	c.version(&l.Version)
}

func (c *coder) item(i *api.Item) {
	c.text(&i.Name)
	c.version(&i.Version)
	c.word(&i.Crc)
}

func (c *coder) object(o *api.Object) {
	c.text(&o.Name)
	c.version(&o.Version)
	c.data(&o.Data)
}

func (c *coder) info(i *api.Info) {
	c.number(&i.Les)
	c.version(&i.Head)
	c.version(&i.Tail)
	c.number(&i.Born)
}

func (c *coder) state(s *api.State) {
	c.number(&s.Les)
	c.version(&s.Tail)
	list(c, &s.Log, (*coder).entry)
	list(c, &s.Lasts, (*coder).last)
	list(c, &s.Items, (*coder).item)
}

func (c *coder) slot(s *api.Slot) {
	c.numbers(&s.Slot, &s.Ballot)
	c.data(&s.Value)
}

func (c *coder) op(o *api.Op) {
	c.number(&o.Kind)
	c.text(&o.Name)
	c.data(&o.Data)
	c.version(&o.Expect)
}

func (c *coder) msg(m *api.Msg) {
	c.number(&m.Kind)
	c.node(&m.From)
	c.node(&m.To)
	c.numbers(&m.Boot, &m.Epoch)
	c.pg(&m.Pg)
	c.numbers(&m.Client, &m.Number, &m.Ballot)
	list(c, &m.Slots, (*coder).slot)
	list(c, &m.Incs, (*coder).inc)
	list(c, &m.Changes, (*coder).change)
	c.info(&m.Info)
	c.state(&m.State)
	c.entry(&m.Entry)
	c.object(&m.Object)
	c.op(&m.Op)
	list(c, &m.Items, (*coder).item)
	c.texts(&m.Names)
	c.errno(&m.Errno)
}

func (c *coder) step(s *api.Step) {
	c.number(&s.Kind)
	c.pg(&s.Pg)
	c.text(&s.Name)
	c.numbers(&s.At, &s.N)
	c.text(&s.Key)
	c.data(&s.Data)
}

func (c *coder) tx(t *api.Tx) { list(c, &t.Steps, (*coder).step) }
