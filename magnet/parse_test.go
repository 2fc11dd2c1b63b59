package magnet_test

import (
	"fmt"
	"math/rand"
	"strings"
	"testing"

	"torrent/api"
	"torrent/magnet"
)

// holdParse holds Parse of a text against the plain one, and what it answers against Check and Print.
func holdParse(t *testing.T, s string) {
	t.Helper()
	want, place, e := plainParse(s)
	l, at, f := magnet.Parse(s)
	if show(l) != show(want) || at != place || f != e {
		t.Errorf("P22.5: Parse(%q) = %s, %d, %d, want %s, %d, %d", brief(s), show(l), at, f, show(want), place, e)
	}
	if f != api.OK {
		return
	}
	if text, g := magnet.Print(l); text != s || g != api.OK || magnet.Check(l) != api.OK {
		t.Errorf("P22.6: Print(Parse(%q)) = %q, %d", brief(s), brief(text), g)
	}
}

// partTokens are parts that can stand in many places, or in none.
func partTokens() []string {
	return []string{"", "=", "=a", "dn", "dn=a", "dn=", "so=1", "so=", "so=5,1", "so=5,1,x", "tr=a", "tr=b", "tr=", "x.pe=a", "x.pe=b", "x.pe=", "xt=urn:btih:0", "xt=x", base[8:], "a=1", "a=", "b=2", "dm=1", "zz=%", "z%3D=%20", "%41=1", "a=b=c", "tr=%26"}
}

// P22.5, P22.6: all rows of up to three parts, behind a good first one and alone.
func TestRowsOfParts(t *testing.T) {
	tokens := partTokens()
	for _, a := range tokens {
		holdParse(t, "magnet:?"+a)
		holdParse(t, base+"&"+a)
		for _, b := range tokens {
			holdParse(t, "magnet:?"+a+"&"+b)
			holdParse(t, base+"&"+a+"&"+b)
			for _, c := range tokens {
				holdParse(t, base+"&"+a+"&"+b+"&"+c)
			}
		}
	}
}

const full = base + "&dn=a%20b&so=0,2,4-6&tr=http://t/?a&tr=u&x.pe=1.2.3.4:5&x.pe=%FF&a%20=%26&zz="

// P22.5, P22.6: a link that ends or begins at each byte, with each byte left out, and with others ahead of it and in its place.
func TestParseWithOneFault(t *testing.T) {
	holdParse(t, full)
	for i := range len(full) {
		holdParse(t, full[:i])
		holdParse(t, full[i:])
		holdParse(t, full[:i]+full[i+1:])
		for c := range 256 {
			x := string([]byte{byte(c)})
			holdParse(t, full[:i]+x+full[i:])
			holdParse(t, full[:i]+x+full[i+1:])
		}
	}
}

// P22.5: each byte in a key and in a value, and behind a percent sign.
func TestParseEachByte(t *testing.T) {
	for c := range 256 {
		x := string([]byte{byte(c)})
		for _, part := range []string{"a" + x + "=b", "a=b" + x, "a=%" + x + "0", "a=%0" + x, "%2" + x + "=%", "dn=" + x, "tr=" + x, x} {
			holdParse(t, base+"&"+part)
			holdParse(t, "magnet:?"+part)
		}
		holdParse(t, base[:len(base)-1]+x)
		holdParse(t, base+x)
	}
}

// P22.5: what a link begins with.
func TestParseScheme(t *testing.T) {
	for i := range len("magnet:?") {
		for _, c := range "xM?:&=" {
			s := base[:i] + string(c) + base[i+1:]
			if l, at, e := magnet.Parse(s); s != base && (show(l) != noLink || at != 0 || e != api.ErrLinkScheme) {
				t.Errorf("P22.5: Parse(%q) = %s, %d, %d", s, show(l), at, e)
			}
		}
		holdParse(t, base[:i])
		holdParse(t, base[i:])
	}
}

// P22.5, P22.6: the infohash: each digit, and others as long.
func TestParseInfo(t *testing.T) {
	l, at, e := magnet.Parse(base)
	if l.Info != info || at != 0 || e != api.OK {
		t.Errorf("P22.5: %x, %d, %d", l.Info, at, e)
	}
	for _, value := range []string{"", "urn:", "urn:btih", "urn:btih:", "urn:btih", "URN:BTIH:", "urn:btmh:", "urn:btmh:1220", "urn:btmh:1120" + digitsOfInfo, "urn:btmh:1221" + digitsOfInfo, "urn:btmh:122" + digitsOfInfo, "urn:btmh:1220" + digitsOfInfo[1:], "urn:btmh:1220" + digitsOfInfo[2:], "urn:btmh:1220" + digitsOfInfo + "0", "urn:btmh:1220" + digitsOfInfo + "00", "urn:btmh:1220" + strings.ToUpper(digitsOfInfo), digitsOfInfo, digitsOfInfo + "0011223344556", " urn:btih:", "urn:btmh:1220" + strings.Repeat("0", 64), "urn:btmh:1220" + strings.Repeat("f", 64), "xurn:btmh:1220" + digitsOfInfo} {
		holdParse(t, "magnet:?xt="+value)
		holdParse(t, "magnet:?xt="+value+"&dn=a")
		holdParse(t, base+"&xt="+value)
		holdParse(t, base+"&a=1&xt="+value)
		holdParse(t, base+"&a="+value)
	}
	for i := range digitsOfInfo {
		for _, c := range "0123456789abcdefABFGg:" {
			holdParse(t, "magnet:?xt=urn:btmh:1220"+digitsOfInfo[:i]+string(c)+digitsOfInfo[i+1:])
		}
	}
}

// P22.5, P22.6: runs: all short texts of a few bytes.
func TestParseShortRuns(t *testing.T) {
	rows := []string{""}
	for range 6 {
		var longer []string
		for _, s := range rows {
			holdParse(t, base+"&so="+s)
			for _, c := range []string{"0", "1", "3", "9", "-", ","} {
				longer = append(longer, s+c)
			}
		}
		rows = longer
	}
}

// P22.5, P22.6: runs about the limits, and beyond what an int can be.
func TestParseRunsAtEdges(t *testing.T) {
	numbers := []string{"0", "00", "1", "01", "+1", "-1", "1_0", "0x1", "1e1", " 1", "1%20", "4093", "4094", "4095", "4096", "04095", "9999", "40950", "4294967296", "9223372036854775807", "9223372036854775808", "18446744073709551616", "99999999999999999999999", "x", ""}
	for _, a := range numbers {
		holdParse(t, base+"&so="+a)
		for _, b := range numbers {
			holdParse(t, base+"&so="+a+"-"+b)
			holdParse(t, base+"&so="+a+","+b)
			holdParse(t, base+"&so=0-"+a+","+b)
			holdParse(t, base+"&so=0,"+a+"-"+b)
		}
	}
	for place := range 4097 {
		holdParse(t, fmt.Sprint(base, "&so=", place))
	}
	// As many runs as can be told in a text.
	for _, n := range []int{800, 1000, 1100, 1200} {
		text := "0"
		for i := 1; i < n; i++ {
			text += fmt.Sprint(",", 2*i)
		}
		holdParse(t, base+"&so="+text)
		holdParse(t, base+"&so="+text+",1")
	}
}

// P22.5: texts about the limit; that is looked at ahead of everything else.
func TestParseLengths(t *testing.T) {
	for n := 4094; n <= 4099; n++ {
		for _, ahead := range []string{base + "&dn=", base + "&tr=", base + "&x.pe=", base + "&a=", base + "&", base + "&a=%", "magnet:?", "", "MAGNET:?"} {
			s := ahead + strings.Repeat("n", n-len(ahead))
			holdParse(t, s)
			if _, at, e := magnet.Parse(s); n > 4096 && (at != 0 || e != api.ErrLinkLong) {
				t.Errorf("P22.5: %d bytes: %d, %d", n, at, e)
			}
		}
	}
	if l, at, e := magnet.Parse(base + strings.Repeat("&", 1<<20)); show(l) != noLink || at != 0 || e != api.ErrLinkLong {
		t.Errorf("P22.5: a long text: %d, %d", at, e)
	}
	s := base
	for i := 0; len(s) < 4080; i++ {
		s += fmt.Sprint("&tr=", i)
	}
	holdParse(t, s)
	holdParse(t, s+"&tr=0")
	holdParse(t, s+"&x.pe=0")
	holdParse(t, "magnet:?"+strings.Repeat("&", 4088))
}

// P22.5, P22.6: random parts, most of them written with percent signs.
func TestParseRandomTexts(t *testing.T) {
	r := rand.New(rand.NewSource(2))
	keys := []string{"dn", "so", "tr", "tr", "x.pe", "x.pe", "xt", "a", "b", "zz", "a%20", ""}
	for range 30000 {
		s := base
		for range r.Intn(6) {
			value := magnet.Escape(randomText(r))
			if r.Intn(20) == 0 {
				value = randomText(r)
			}
			s += "&" + keys[r.Intn(len(keys))] + "=" + value
		}
		holdParse(t, s)
	}
}
