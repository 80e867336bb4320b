package desk_test

import (
	"fmt"
	"reflect"
	"strings"
	"testing"

	"headrace/api"
	"headrace/desk"
)

// little is a script's configuration.
const little = "host a 1 0\nroute / 1 1 9 0\n"

// plain is a configuration of a script, of so many hosts a, b and so on with Cap 1 and Pend 0, and of a route / of 1 1 9 0.
func plain(hosts int) api.Config {
	r := api.Route{
		Match: api.Match{Prefix: "/"}, Rate: 1, Per: 1, Burst: 9,
		Open: 100, Cool: 10, Probes: 1, Percent: 100, Min: 10, Window: 100,
		HedgeAfter: 10, PerTry: 50, Total: 200,
	}
	c := api.Config{
		Timeout: 1, Up: 1, Down: 1, Base: 1, Longest: 1,
		MaxHead: 1000, MaxBody: 1000, MaxOut: 1000,
		HeadTime: 100, Idle: 100, Life: 1000, Clients: 16,
	}
	for i := range hosts {
		c.Hosts = append(c.Hosts, api.Host{Name: string(rune('a' + i)), Cap: 1})
		r.Hosts = append(r.Hosts, i)
	}
	c.Routes = []api.Route{r}
	return c
}

func config(t *testing.T, script string, want api.Config) {
	t.Helper()
	if c, line, e := desk.Config(script); !reflect.DeepEqual(c, want) || line != 0 || e != api.OK {
		t.Errorf("Config(%q): %+v, %d, %v; want %+v", script, c, line, e, want)
	}
}

// wrong looks at what is wrong, to Config and to Run.
func wrong(t *testing.T, script string, line int, e api.Errno) {
	t.Helper()
	if len(script) > 100 {
		defer func() {
			if t.Failed() {
				t.Fatalf("%q ..", script[:100])
			}
		}()
	}
	if c, l, err := desk.Config(script); !reflect.DeepEqual(c, api.Config{}) || l != line || err != e {
		t.Errorf("Config(%.99q): %v, %d, %v; want %d, %v", script, c, l, err, line, e)
	}
	if s, l, err := desk.Run(script); s != "" || l != line || err != e {
		t.Errorf("Run(%.99q): %q, %d, %v; want %d, %v", script, s, l, err, line, e)
	}
}

// 28.2: the configuration of a script.
func TestConfig(t *testing.T) {
	config(t, little, plain(1))
	config(t, little[:len(little)-1], plain(1))
	config(t, "route / 1 1 9 0\nhost a 1 0", plain(1))
	config(t, little+"open 1\ntick 5\ntick 10001\nbytes 1 x\n", plain(1))
	c := plain(3)
	c.Hosts[1].Cap, c.Hosts[1].Pend = 64, 64
	c.Routes = append(c.Routes, c.Routes[0])
	c.Routes[1].Prefix, c.Routes[1].Rate, c.Routes[1].Per, c.Routes[1].Burst, c.Routes[1].Retries = "/b", 0, 1000000, 3, 5
	c.MaxHead, c.MaxBody, c.MaxOut = 16, 0, 1
	config(t, "host a 1 0\nlimits 65536 1048576 1048576\nroute / 1 1 9 0\nhost b 64 64\nroute /b 0 1000000 3 5\nlimits 16 0 1\nhost c 1 0\n", c)
	// The two routes' lists are two.
	c, _, _ = desk.Config(little + "route /b 1 1 1 1\n")
	c.Routes[0].Hosts[0] = 7
	if c.Routes[1].Hosts[0] != 0 {
		t.Error("the routes share their hosts")
	}
	var hosts, routes string
	for i := range 16 {
		hosts += fmt.Sprintf("host h%d 1 0\n", i)
		routes += fmt.Sprintf("route /%d 1 1 1 1\n", i)
	}
	if c, _, e := desk.Config(hosts + routes); len(c.Routes) != 16 || len(c.Routes[15].Hosts) != 16 || e != api.OK {
		t.Errorf("%v: %v", c, e)
	}
	wrong(t, hosts+"host x 1 0\n"+routes, 0, api.ErrConfig)
	wrong(t, hosts+routes+"route /x 1 1 1 1\n", 0, api.ErrConfig)
}

// 28.2: each kind of line of the configuration, with a word more, one fewer, two blanks, and each number that is none.
func TestConfigLines(t *testing.T) {
	for _, line := range []string{"host b 1 0", "route /b 1 1 9 0", "limits 16 0 1"} {
		if _, n, e := desk.Config(little + line); n != 0 || e != api.OK {
			t.Errorf("%q: %d, %v", line, n, e)
		}
		last := strings.LastIndex(line, " ")
		for _, x := range []string{line + " ", line + " 1", " " + line, line + "\r", line[:last], line[:last+1], strings.Replace(line, " ", "  ", 1), line[:last] + " " + line[last:], strings.Replace(line, " ", "\t", 1), strings.ToUpper(line), line[:last] + " 00", line[:last] + " 01", line[:last] + " -1", line[:last] + " +1", line[:last] + " 4294967296", line[:last] + " x"} {
			wrong(t, little+x, 3, api.ErrForm)
			wrong(t, x+"\n"+little, 1, api.ErrForm)
			wrong(t, little+"tick 1\n"+x, 4, api.ErrForm)
		}
		wrong(t, little+"tick 1\n"+line, 4, api.ErrState)
		wrong(t, little+"tick 1\n"+line+"\nx\n", 4, api.ErrState)
		wrong(t, little+"tick 1\nx\n"+line, 4, api.ErrForm)
		wrong(t, line+"\n"+"tick 1\n"+little, 3, api.ErrState)
	}
	for _, line := range []string{"host b 4294967295 0", "host b 0 0", "host a 1 0", "host B 1 0", "host b: 1 0", "host b 65 0", "host b 1 65", "route x 1 1 1 1", "route /../ 1 1 1 1", "route /b?x 1 1 1 1", "route /b 1 0 1 1", "route /b 4294967295 1 1 1", "route /b 1 1 1 6", "limits 15 0 1", "limits 65537 0 1", "limits 16 1048577 1", "limits 16 0 0", "host \x01 1 0", "host # 1 0"} {
		wrong(t, little+line, 0, api.ErrConfig)
		wrong(t, little+line+"\ntick 1", 0, api.ErrConfig)
		wrong(t, little+line+"\nx", 4, api.ErrForm)
	}
	for _, line := range []string{"host  1 0", "route  1 1 9 0", "host", "host ", "route", "limits", "limits "} {
		wrong(t, little+line, 3, api.ErrForm)
	}
	wrong(t, "", 0, api.ErrConfig)
	wrong(t, "host a 1 0\n", 0, api.ErrConfig)
	wrong(t, "route / 1 1 1 1\n", 0, api.ErrConfig)
	wrong(t, "tick 1\n", 0, api.ErrConfig)
	wrong(t, "tick 1\nhost a 1 0\n", 2, api.ErrState)
}

// 28.2: lines that are passed over, those that are none, and the last one's end.
func TestPassedOver(t *testing.T) {
	want, _, _ := desk.Run(little + "open 1\nreset 1\nopen 2\nend 2\n")
	if want != "0 close 2\n" {
		t.Fatal(want)
	}
	for _, script := range []string{
		little + "open 1\nreset 1\nopen 2\nend 2",
		"\n\n#\n# x\n#host a 1\n" + little + "\n\nopen 1\n#\nreset 1\nopen 2\n#tick x\nend 2\n\n\n",
		"#" + strings.Repeat("x", 9999) + "\x00\xff\n" + little + "open 1\nreset 1\nopen 2\nend 2\n#",
	} {
		if s, line, e := desk.Run(script); s != want || line != 0 || e != api.OK {
			t.Errorf("%q: %q, %d, %v", script, s, line, e)
		}
	}
	wrong(t, "\n#\n\nx\n"+little, 4, api.ErrForm)
	wrong(t, little+"\n \n", 4, api.ErrForm)
	wrong(t, little+" #\n", 3, api.ErrForm)
	wrong(t, little+"\r\n", 3, api.ErrForm)
	wrong(t, little+"#\ntick 1\n#\n\nhost b 1 0\n", 7, api.ErrState)
}

// 28.2: MaxLines lines and one more, MaxBytes bytes and one more.
func TestLong(t *testing.T) {
	if desk.MaxLines != 4096 {
		t.Errorf("MaxLines: %d", desk.MaxLines)
	}
	lines := little + strings.Repeat("\n", desk.MaxLines-2)
	config(t, lines, plain(1))
	config(t, strings.TrimSuffix(lines, "\n")+"#", plain(1))
	wrong(t, lines+"\n", 0, api.ErrLong)
	wrong(t, lines+"#", 0, api.ErrLong)
	wrong(t, "x\n"+lines, 0, api.ErrLong)
	remark := little + "#" + strings.Repeat("x", api.MaxBytes-len(little)-1)
	config(t, remark, plain(1))
	config(t, remark[:len(remark)-1]+"\n", plain(1))
	wrong(t, remark+"x", 0, api.ErrLong)
	wrong(t, remark+"\n", 0, api.ErrLong)
	wrong(t, "x\n"+remark, 0, api.ErrLong)
	wrong(t, strings.Repeat("\n", api.MaxBytes), 0, api.ErrLong)
}

// 28.3: what the proxy does, line by line; an event that it refuses.
func TestRun(t *testing.T) {
	script := little + `open 1
bytes 1 GET / HTTP/1.1\r\nHost: a\r\n\r\n
up 1048576
tick 3
bytes 1048576 HTTP/1.1 200 OK\r\nContent-Length: 3\r\n\r\na\\\xff
room 1 7
draw 4294967295
room 1 500
drain
open 2
tick 97
`
	want := `0 parsed 1 0 0
0 admit 1 0 0
0 try 0 0 0
0 open 1048576 0
0 write 1048576 GET / HTTP/1.1\r\nHost: a\r\nVia: 1.1 headrace\r\n\r\n
3 answer 1 0 200 1
3 done 1 0
3 write 1 HTTP/1.
3 write 1 1 200 OK\r\nContent-Length: 3\r\nVia: 1.1 headrace\r\n\r\na\\\xff
3 close 1
3 close 2
`
	if s, line, e := desk.Run(script); s != want || line != 0 || e != api.OK {
		t.Errorf("%q, %d, %v", s, line, e)
	}
	if s, line, e := desk.Run(little); s != "" || line != 0 || e != api.OK {
		t.Errorf("%q, %d, %v", s, line, e)
	}
	if s, line, e := desk.Run(script + "tick 3\n"); s != want+"103 close 1048576\n" || line != 0 || e != api.OK {
		t.Errorf("%q, %d, %v", s, line, e)
	}
	for _, x := range []string{"tick 10001", "tick 4294967295"} {
		if s, line, e := desk.Run(script + "\n#\n" + x + "\ntick 99999\n"); s != "" || line != 16 || e != api.ErrArg {
			t.Errorf("%q, %d, %v", s, line, e)
		}
	}
	if s, line, e := desk.Run(little + "tick 10000\nroom 4294967295 4294967295\nopen 4294967295\n"); s != "" || line != 0 || e != api.OK {
		t.Errorf("%q, %d, %v", s, line, e)
	}
	// Config's error is told ahead of the proxy's.
	wrong(t, little+"tick 10001\nx\n", 4, api.ErrForm)
}

// Each kind of act that a script's configuration lets be done.
func TestRunRetry(t *testing.T) {
	script := "host a 1 0\nhost b 1 0\nroute / 1 1 9 1\nopen 7\nroom 7 9\nbytes 7 GET / HTTP/1.1\\r\\nHost: a\\r\\n\\r\\n\nrefused 1048576\nreset 7\ntick 10000\n"
	want := "0 parsed 7 0 0\n0 admit 7 0 0\n0 try 0 0 0\n0 open 1048576 0\n0 try 0 1 1\n0 open 1048577 1\n0 close 1048577\n"
	if s, line, e := desk.Run(script); s != want || line != 0 || e != api.OK {
		t.Errorf("%q, %d, %v", s, line, e)
	}
	script = "host a 1 0\nroute / 1 1 9 0\nopen 7\nroom 7 9\nbytes 7 x\ntick 10000\nbytes 7 x\n"
	want = "100 answer 7 -1 408 0\n100 write 7 HTTP/1.1 \n"
	if s, line, e := desk.Run(script); s != want || line != 0 || e != api.OK {
		t.Errorf("%q, %d, %v", s, line, e)
	}
}
