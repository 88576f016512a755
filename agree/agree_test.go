package agree

import (
	"bytes"
	"crypto/ecdh"
	"crypto/ed25519"
	"crypto/hkdf"
	"crypto/sha256"
	"encoding/binary"
	"encoding/hex"
	"math"
	"math/rand"
	"reflect"
	"slices"
	"testing"

	"intaglio/api"
	"intaglio/frame"
	"intaglio/ladder"
	"intaglio/sign"
)

// chance: n keys, always the same of one number.
func chance(seed int64, n int) []api.Key {
	r := rand.New(rand.NewSource(seed))
	list := make([]api.Key, n)
	for i := range list {
		r.Read(list[i][:])
	}
	return list
}

// full: the key of which all bits are set.
func full() api.Key { return api.Key(bytes.Repeat([]byte{0xff}, 32)) }

// hexKey: a key written in hexadecimal digits.
func hexKey(t testing.TB, s string) api.Key {
	t.Helper()
	b, err := hex.DecodeString(s)
	if err != nil || len(b) != 32 {
		t.Fatal("no key")
	}
	return api.Key(b)
}

// small: public keys with which nobody agrees on anything. The first one, as a key for once, is none.
func small(t testing.TB) []api.Key {
	return []api.Key{
		{}, {1}, {31: 0x80}, {1, 31: 0x80},
		hexKey(t, "e0eb7a7c3b41b8ae1656e3faf19fc46ada098deb9c32b1fd866205165f49b800"),
		hexKey(t, "5f9c95bca3508c24b1d0b1559c83ef5b04445cc4581c8e86d8224eddd09f1157"),
		hexKey(t, "ecffffffffffffffffffffffffffffffffffffffffffffffffffffffffffff7f"),
		hexKey(t, "edffffffffffffffffffffffffffffffffffffffffffffffffffffffffffff7f"),
		hexKey(t, "eeffffffffffffffffffffffffffffffffffffffffffffffffffffffffffff7f"),
	}
}

// slowSign: the public key of a seed, by the library.
func slowSign(seed api.Key) api.Key {
	return api.Key(ed25519.NewKeyFromSeed(seed[:]).Public().(ed25519.PublicKey))
}

// slowPublic: the public key of one's own, by the library.
func slowPublic(t testing.TB, own api.Key) api.Key {
	t.Helper()
	k, err := ecdh.X25519().NewPrivateKey(own[:])
	if err != nil {
		t.Fatal(err)
	}
	return api.Key(k.PublicKey().Bytes())
}

// slowAgree: what two keys agree on, by the library; nothing, if that is the zero key.
func slowAgree(t testing.TB, own, theirs api.Key) []byte {
	t.Helper()
	k, err := ecdh.X25519().NewPrivateKey(own[:])
	if err != nil {
		t.Fatal(err)
	}
	p, err := ecdh.X25519().NewPublicKey(theirs[:])
	if err != nil {
		t.Fatal(err)
	}
	secret, err := k.ECDH(p)
	if err != nil {
		return nil
	}
	return secret
}

// slowSecret: the secret of some pairs, own and theirs by turns, by the words of the promises; and whether there is one.
func slowSecret(t testing.TB, begins, offers Public, pairs ...api.Key) (Secret, api.Errno) {
	t.Helper()
	joint := bytes.Repeat([]byte{0xff}, 32)
	for i := 0; i < len(pairs); i += 2 {
		secret := slowAgree(t, pairs[i], pairs[i+1])
		if secret == nil {
			return Secret{}, api.ErrZero
		}
		joint = append(joint, secret...)
	}
	key, err := hkdf.Key(sha256.New, joint, nil, "signet agree", 32)
	if err != nil {
		t.Fatal(err)
	}
	bound := sha256.Sum256(slices.Concat([]byte("signet bound"), begins.Sign[:], begins.Agree[:], offers.Sign[:], offers.Agree[:]))
	return Secret{Key: api.Key(key), Bound: bound}, api.OK
}

// slowText: what an offer's signature is of.
func slowText(o Offer) []byte {
	b := slices.Concat([]byte("signet offer"), o.Agree[:], o.Pre[:])
	return binary.BigEndian.AppendUint32(b, o.PreID)
}

// signed: an offer with other keys in it, rightly signed again.
func signed(p Person, o Offer) Offer {
	o.Sign = slowSign(p.Sign)
	o.Sig = api.Sig(ed25519.Sign(ed25519.NewKeyFromSeed(p.Sign[:]), slowText(o)))
	return o
}

// people: persons with all kinds of keys.
func people() []Person {
	k := chance(1, 6)
	return []Person{{k[0], k[1]}, {k[2], k[3]}, {k[4], k[5]}, {}, {full(), full()}, {Sign: k[0], Agree: k[0]}, {api.Key{1}, api.Key{2}}}
}

// P14.1: the public keys, of all kinds of keys, held against the library.
func TestPublic(t *testing.T) {
	for i, p := range people() {
		if q := p.Public(); q.Sign != slowSign(p.Sign) || q.Agree != slowPublic(t, p.Agree) {
			t.Errorf("person %d: %x", i, q)
		}
	}
}

// P14.2: what an offer has, and its signature, held against the library.
func TestOffer(t *testing.T) {
	k := chance(2, 4)
	for i, p := range people() {
		for _, ids := range [][2]uint32{{0, 0}, {1, 9}, {0x01020304, 0x05060708}, {math.MaxUint32, math.MaxUint32}} {
			for _, pre := range []api.Key{k[0], {}, full()} {
				for _, once := range []api.Key{k[1], {1}, {31: 1}, full()} {
					want := Offer{Public: p.Public(), Pre: slowPublic(t, pre), Once: slowPublic(t, once), PreID: ids[0], OnceID: ids[1]}
					if o := p.Offer(pre, once, ids[0], ids[1]); o != signed(p, want) || o.Check() != api.OK {
						t.Fatalf("person %d, numbers %d: %+v", i, ids, o)
					}
				}
			}
		}
	}
}

// P14.2: without a key for once there is none, and no number of one.
func TestOfferWithoutOnce(t *testing.T) {
	p, pre := people()[0], api.Key{40}
	for _, id := range []uint32{0, 1, math.MaxUint32} {
		o := p.Offer(pre, api.Key{}, 3, id)
		if o != signed(p, Offer{Public: p.Public(), Pre: slowPublic(t, pre), PreID: 3}) || o.Check() != api.OK {
			t.Errorf("number %d: %+v", id, o)
		}
	}
}

// P14.2: Check, of an offer of which any bit that is signed, or of the signature, is another.
func TestCheckOfEveryBit(t *testing.T) {
	p := people()[0]
	o := p.Offer(api.Key{40}, api.Key{48}, 0x01020304, 7)
	for i := range 256 {
		agree, pre := o, o
		agree.Agree[i/8] ^= 1 << (i % 8)
		pre.Pre[i/8] ^= 1 << (i % 8)
		if agree.Check() != api.ErrSign || pre.Check() != api.ErrSign {
			t.Errorf("bit %d of Agree or Pre: %v, %v", i, agree.Check(), pre.Check())
		}
	}
	for i := range 32 {
		other := o
		other.PreID ^= 1 << i
		if e := other.Check(); e != api.ErrSign {
			t.Errorf("bit %d of PreID: %v", i, e)
		}
	}
	for i := range 512 {
		other := o
		other.Sig[i/8] ^= 1 << (i % 8)
		if e := other.Check(); e != api.ErrSign {
			t.Errorf("bit %d of Sig: %v", i, e)
		}
	}
}

// P14.2: Check has layer 7's errors of the key, and asks nothing of the key for once.
func TestCheckOfOtherKeys(t *testing.T) {
	p := people()[0]
	o := p.Offer(api.Key{40}, api.Key{48}, 1, 7)
	count := map[api.Errno]int{}
	for _, k := range append(chance(3, 40), api.Key{2}, api.Key{1}, api.Key{}, full(), people()[1].Public().Sign) {
		other := o
		other.Sign = k
		want := sign.Check(k, o.Sig, slowText(o))
		count[want]++
		if e := other.Check(); e != want || e == api.OK {
			t.Errorf("signed by %x: %v, not %v", k, e, want)
		}
	}
	if count[api.ErrPoint] < 5 || count[api.ErrSign] < 5 {
		t.Errorf("too few of a kind: %v", count)
	}
	for _, once := range []api.Key{{}, {9}, full()} {
		other := o
		other.Once, other.OnceID = once, 99
		if e := other.Check(); e != api.OK {
			t.Errorf("another key for once: %v", e)
		}
	}
}

// offers: all kinds of them, many of them not signed.
func offers() []Offer {
	k := chance(4, 8)
	p := people()[0]
	return []Offer{
		p.Offer(k[0], k[1], 1, 9), p.Offer(k[0], api.Key{}, 0x01020304, 9), {}, {OnceID: 3},
		{Public: Public{k[2], k[3]}, Pre: k[4], Once: k[5], PreID: math.MaxUint32, OnceID: 1 << 31, Sig: api.Sig(slices.Concat(k[6][:], k[7][:]))},
	}
}

// P14.2: the frame of an offer, and what is read of it.
func TestFrame(t *testing.T) {
	for i, o := range offers() {
		want := api.Frame{Kind: 1, Keys: []api.Key{o.Sign, o.Agree, o.Pre, o.Once}, Nums: []uint32{o.PreID, o.OnceID}, Sigs: []api.Sig{o.Sig}}
		f := o.Frame()
		if f.Kind != want.Kind || !slices.Equal(f.Keys, want.Keys) || !slices.Equal(f.Nums, want.Nums) || !slices.Equal(f.Sigs, want.Sigs) || len(f.Data) > 0 {
			t.Errorf("offer %d: %+v", i, f)
		}
		if r, e := Read(want); e != api.OK || r != o {
			t.Errorf("offer %d: read: %+v, %v", i, r, e)
		}
		want.Data = []byte{}
		if r, e := Read(want); e != api.OK || r != o {
			t.Errorf("offer %d: read with an empty list: %+v, %v", i, r, e)
		}
		b, e := frame.Encode(f)
		if e != api.OK || len(b) != frame.Size(frame.Bundle) {
			t.Errorf("offer %d: written: %v", i, e)
		}
	}
}

// P14.2: what is no offer's frame.
func TestReadOfOthers(t *testing.T) {
	for i := range 6 * 4 * 3 * 2 * 9 {
		keys, nums, sigs, data, kind := i%6, i/6%4, i/24%3, i/72%2, i/144
		f := api.Frame{Kind: kind, Keys: make([]api.Key, keys), Nums: make([]uint32, nums), Sigs: make([]api.Sig, sigs), Data: make([]byte, data)}
		want := api.ErrShape
		if keys == 4 && nums == 2 && sigs == 1 && data == 0 && kind == 1 {
			want = api.OK
		}
		if o, e := Read(f); e != want || o != (Offer{}) {
			t.Errorf("%d, with %d, %d, %d, %d: %+v, %v", kind, keys, nums, sigs, data, o, e)
		}
	}
	good := offers()[0].Frame()
	for _, kind := range []int{math.MinInt, -1, 0, 2, 3, 4, 5, 6, 7, 8, 257, 1 << 32, 1<<32 + 1, math.MaxInt} {
		f := good
		f.Kind = kind
		if o, e := Read(f); e != api.ErrShape || o != (Offer{}) {
			t.Errorf("kind %d: %+v, %v", kind, o, e)
		}
	}
	good.Data = make([]byte, frame.MaxData+1)
	if o, e := Read(good); e != api.ErrShape || o != (Offer{}) {
		t.Errorf("with data: %+v, %v", o, e)
	}
}

// P14.3 and P14.4: both come to the same secret, held against the library.
func TestBeginAndAccept(t *testing.T) {
	k := chance(5, 6)
	all := people()
	for i, a := range all {
		for j, b := range all {
			pre, fresh := k[i%3], k[3+j%3]
			for _, once := range []api.Key{{}, {1}, k[(i+j)%6]} {
				o := b.Offer(pre, once, uint32(i), uint32(j))
				pairs := []api.Key{a.Agree, o.Pre, fresh, o.Agree, fresh, o.Pre}
				if once != (api.Key{}) {
					pairs = append(pairs, fresh, o.Once)
				}
				want, _ := slowSecret(t, a.Public(), b.Public(), pairs...)
				if s, e := a.Begin(fresh, o); e != api.OK || s != want {
					t.Errorf("%d begins with %d: %x, %v", i, j, s, e)
				}
				if s, e := b.Accept(pre, once, a.Public(), slowPublic(t, fresh)); e != api.OK || s != want {
					t.Errorf("%d accepts %d: %x, %v", j, i, s, e)
				}
			}
		}
	}
}

// P14.3: the error of Check stands ahead of all others.
func TestBeginOfWrongOffers(t *testing.T) {
	a, b := people()[0], people()[1]
	good := b.Offer(api.Key{40}, api.Key{48}, 1, 2)
	for i, k := range append(small(t), chance(6, 3)...) {
		pre, agree, none, id, sig := good, good, good, good, good
		pre.Pre, agree.Agree, none.Sign = k, k, api.Key{2}
		none.Pre, none.Agree, none.Once = k, k, k
		id.PreID, id.Once = 7, k
		sig.Sig[40] ^= 1
		sig.Once = k
		for j, o := range []Offer{pre, agree, none, id, sig} {
			want := api.ErrSign
			if j == 2 {
				want = api.ErrPoint
			}
			if s, e := a.Begin(api.Key{56}, o); e != want || s != (Secret{}) {
				t.Errorf("key %d, offer %d: %x, %v", i, j, s, e)
			}
		}
	}
}

// P14.3: ErrZero of each public key of an offer with which nobody agrees on anything; without a key for once there is one pair less.
func TestBeginOfSmallKeys(t *testing.T) {
	a, b, fresh := people()[0], people()[1], api.Key{56}
	good := b.Offer(api.Key{40}, api.Key{48}, 1, 2)
	for i, k := range small(t) {
		for j := range 7 { // the bits: of Pre, Agree and Once
			o := good
			for bit, place := range []*api.Key{&o.Pre, &o.Agree, &o.Once} {
				if (j+1)>>bit&1 == 1 {
					*place = k
				}
			}
			o = signed(b, o)
			pairs := []api.Key{a.Agree, o.Pre, fresh, o.Agree, fresh, o.Pre}
			if o.Once != (api.Key{}) {
				pairs = append(pairs, fresh, o.Once)
			}
			want, e := slowSecret(t, a.Public(), o.Public, pairs...)
			if none := i == 0 && j == 3; (e == api.OK) != none {
				t.Fatalf("key %d, places %d: the library has %v", i, j+1, e)
			}
			if s, f := a.Begin(fresh, o); s != want || f != e {
				t.Errorf("key %d, places %d: %x, %v, not %v", i, j+1, s, f, e)
			}
		}
	}
}

// P14.4: ErrZero of a public key with which nobody agrees on anything; no key of one's own is refused.
func TestAcceptOfSmallKeys(t *testing.T) {
	b, who := people()[1], people()[0].Public()
	fresh := ladder.Public(api.Key{56})
	for i, k := range small(t) {
		for _, once := range []api.Key{{}, {48}} {
			bad := who
			bad.Agree = k
			if s, e := b.Accept(api.Key{40}, once, bad, fresh); e != api.ErrZero || s != (Secret{}) {
				t.Errorf("key %d of who began: %x, %v", i, s, e)
			}
			if s, e := b.Accept(api.Key{40}, once, who, k); e != api.ErrZero || s != (Secret{}) {
				t.Errorf("key %d as the fresh one: %x, %v", i, s, e)
			}
			bad = Public{Sign: k, Agree: who.Agree}
			if s, e := b.Accept(k, once, bad, fresh); e != api.OK || s == (Secret{}) {
				t.Errorf("key %d of one's own: %v", i, e)
			}
		}
	}
}

// P14.4: whatever is another's, or another key, makes another secret.
func TestOtherSecrets(t *testing.T) {
	a, b, c := people()[0], people()[1], people()[2]
	pre, once, fresh := api.Key{40}, api.Key{48}, ladder.Public(api.Key{56})
	var seen []Secret
	add := func(p Person, pre, once api.Key, who Public, fresh api.Key) {
		s, e := p.Accept(pre, once, who, fresh)
		if e != api.OK {
			t.Errorf("%v", e)
		}
		for i, other := range seen {
			if other.Key == s.Key {
				t.Errorf("key %d comes once more", i)
			}
		}
		seen = append(seen, s)
	}
	add(b, pre, once, a.Public(), fresh)
	add(b, pre, api.Key{}, a.Public(), fresh)
	add(b, pre, api.Key{64}, a.Public(), fresh)
	add(b, api.Key{64}, once, a.Public(), fresh)
	add(b, once, pre, a.Public(), fresh)
	add(b, pre, once, c.Public(), fresh)
	add(b, pre, once, a.Public(), c.Public().Agree)
	add(b, pre, once, b.Public(), fresh)
	add(c, pre, once, a.Public(), fresh)
	add(b, pre, once, Public{a.Public().Sign, fresh}, a.Public().Agree)
	sign, e := b.Accept(pre, once, Public{c.Public().Sign, a.Public().Agree}, fresh)
	if e != api.OK || sign.Key != seen[0].Key || sign.Bound == seen[0].Bound {
		t.Error("another signing key must make another Bound, and it alone")
	}
}

// P1: every call takes every argument.
func TestRawArguments(t *testing.T) {
	keys := slices.Concat(small(t), chance(7, 20), []api.Key{full(), {2}})
	for i, k := range keys {
		l, m := keys[(i+3)%len(keys)], keys[(i+7)%len(keys)]
		o := Offer{Public: Public{k, l}, Pre: m, Once: k, PreID: uint32(i) << 28, OnceID: math.MaxUint32, Sig: api.Sig(slices.Concat(l[:], m[:]))}
		if s, e := (Person{l, k}).Begin(m, o); e != api.ErrPoint && e != api.ErrSign || s != (Secret{}) || o.Check() != e {
			t.Errorf("Begin %d: %x, %v", i, s, e)
		}
		if s, e := (Person{l, k}).Accept(m, l, Public{m, k}, l); (e != api.OK) != (s == (Secret{})) || e != api.OK && e != api.ErrZero {
			t.Errorf("Accept %d: %x, %v", i, s, e)
		}
		if r, e := Read(o.Frame()); e != api.OK || r != o {
			t.Errorf("Read %d: %+v, %v", i, r, e)
		}
	}
	if o, e := Read(api.Frame{}); e != api.ErrShape || o != (Offer{}) {
		t.Errorf("Read of nothing: %+v, %v", o, e)
	}
}

// P2: frames are neither changed nor kept, and share no memory; the same call answers the same.
func TestFramesAreApart(t *testing.T) {
	o := offers()[0]
	one, two := o.Frame(), o.Frame()
	clear(one.Keys[:cap(one.Keys)])
	clear(one.Nums[:cap(one.Nums)])
	clear(one.Sigs[:cap(one.Sigs)])
	if r, e := Read(two); e != api.OK || r != o || !reflect.DeepEqual(two, o.Frame()) {
		t.Errorf("two frames share memory: %v", e)
	}
	room := o.Frame()
	room.Keys, room.Nums, room.Sigs = append(room.Keys, api.Key{1}), append(room.Nums, 2), append(room.Sigs, api.Sig{3})
	f := room
	f.Keys, f.Nums, f.Sigs = room.Keys[:4], room.Nums[:2], room.Sigs[:1]
	r, e := Read(f)
	if e != api.OK || r != o || room.Keys[4] != (api.Key{1}) || room.Nums[2] != 2 || room.Sigs[1] != (api.Sig{3}) || !reflect.DeepEqual(f, o.Frame()) {
		t.Errorf("Read: %+v, %v, or what was handed in is changed", r, e)
	}
	clear(room.Keys)
	clear(room.Nums)
	clear(room.Sigs)
	if r != o {
		t.Error("what was handed in is kept")
	}
	p, fresh := people()[0], api.Key{56}
	s, _ := p.Begin(fresh, o)
	if again, e := p.Begin(fresh, o); e != api.OK || again != s {
		t.Errorf("once more: %x, %v, not %x", again, e, s)
	}
}
