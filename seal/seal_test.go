package seal

import (
	"fmt"
	"math"
	"reflect"
	"slices"
	"strings"
	"testing"

	"gazetteer/api"
	"gazetteer/digest"
	"gazetteer/tree"
)

// The known digests below were computed by a separate program, written from
// the chapters alone.

func TestPublicOfKnownSecrets(t *testing.T) {
	for _, test := range []struct {
		secret string
		height int
		want   string
	}{
		{"secret", 0, "2461f9f911928684"},
		{"secret", 1, "b5a016f763222351"},
		{"secret", 2, "83ae0bdaa9884a45"},
		{"secret", 3, "ef19c30f743a0e15"},
		{"secret", 4, "cc37eda55cf1dbc9"},
		{"secret", 5, "c990f081418557cf"},
		{"secret", 6, "1643bc76221db72f"},
		{"secret", 7, "9bf81a2b0ef30c07"},
		{"secret", 8, "e58a347c239f6e3d"},
		{"", 0, "0d293712804b693f"},
		{"", 8, "c78ae84d19221ff9"},
		{"\xff\x00", 0, "5a0adcb2fb66d752"},
		{"\xff\x00", 3, "6f7340a2b8354457"},
	} {
		if got, err := Public(test.secret, test.height); got != test.want || err != api.OK {
			t.Errorf("Public(%q, %d) = %s, %d, want %s", test.secret, test.height, got, err, test.want)
		}
	}
}

func TestSignOfKnownMessages(t *testing.T) {
	for _, test := range []struct {
		secret        string
		height, index int
		message       string
		sig, path     string
	}{
		{"secret", 0, 0, "message", "fd991c451693c180 1c83937ffd14707a a0ea6c45514c8686 3e40596704c3a2d7 d3b7399d7aa35260 5e8aea32a8e24c4f f2169e11de27a1bd b387f304c22b2b3a 1b7b6f322e45a8e3 67de004e0abb1ac0 032657225a2ed876 e64d2acc7ca07b82 56160bf97dbed8d8 91ba26d35079adf7 c47d31122ccccb91 5ef771b0baeb5a5d 599775804f9d6e3f 282e7f49aedcf524", ""},
		{"secret", 2, 1, "message", "e8c9e9c2c63ff30e ad9f0aaa89b2e499 14dd091bd5069764 c67dd44cffd2b9b4 053180ba9c34c2a4 cda3194d6e849acc 8898d1aeadce05bd ba58e761b717c948 c4213c25a50951f9 cf464d5777b922dd ae72951018119183 2c069beb03da9874 af17d8a1096424b7 6ade0a059bb09f4f f2309596590fd6b3 161fb5f542dd2413 e79844293f1970b2 126cc4fd7aaeb70a", "2461f9f911928684 2788e361c13e73ad"},
		{"secret", 2, 3, "", "f3b703b81bf06e99 fa1a9f56499dde47 83565ee1a3a8ac1b aa1339435015e028 3ec20a65776dda73 1c793ebd4d54c15e 3cffc3886624fd0d 49759cb4f032f9bd 8e157090d4a2517f 4d32610dac134093 22116dbb8e37f893 e425848d83a34aaf a4adde9350510494 adb9b4b2bcb5a01c e6f2dc2b5521cb69 5762bdc017538c29 b4d1ca1a507e264e cf73b9132207aa5c", "01ebfe7a63c372fe b5a016f763222351"},
		{"", 3, 6, "a", "b03cf6fbad8c6034 985bd24b5efb14d6 0df387e806578dae c31c93f4145b41ec 0d0b524dc52a46ec 4277c4d9c1b5efd3 13f745e7d209c8df 085e4efb46eb39b2 b13cfafbf559ed47 3bb77cecb8b119a7 3e80ec0f2013c66f 26831aa0dbf3f301 f61b999a4a768fba 58485f660a7cdfe1 42b49227a7adf29e 3cdaf458d199e19c 2e43fc7acfbb302a 553a1531cffa3c02", "51ab7ff5b4f19d38 b62c3b9f147b632e a97b641c56312cde"},
		{"secret", 8, 255, "message", "ce386657bdab2eda 26b71b547d7b9909 6b6788f2cb56aee5 4a807766ac424256 ed2d615d1ced74bb e8e3d11e229727bd 747db3b5a1463708 eedc1ba3bcbfc202 9ef495644bb9815b 9cb585b173bf0e70 279cb8b3f2a6f6e4 ca32e234dd6891e1 817f532493f3f837 d609f40b3c9a4bdf aa1ad743334a5abb 6fce41ac707fe99b c4bc0d1a7a73c179 8df4d0248e5db85b", "873a42cd609848f5 cd005e7429d3554d 712c93cac4a34b84 77097e4e21a1dd74 84ee8ddcc8cec8d4 a7c266213c73f8ef bf23e1f8aae1c69c 9bf81a2b0ef30c07"},
	} {
		got, err := Sign(test.secret, test.height, test.index, test.message)
		if err != api.OK || got.Index != test.index || strings.Join(got.Sig, " ") != test.sig || strings.Join(got.Path, " ") != test.path {
			t.Errorf("Sign(%q, %d, %d, %q) = %v, %d", test.secret, test.height, test.index, test.message, got, err)
		}
	}
}

func TestDigits(t *testing.T) {
	for _, test := range []struct {
		digest string
		want   []int
	}{
		{"0000000000000000", []int{0, 0, 0, 0, 0, 0, 0, 0, 0, 0, 0, 0, 0, 0, 0, 0, 15, 0}},
		{"ffffffffffffffff", []int{15, 15, 15, 15, 15, 15, 15, 15, 15, 15, 15, 15, 15, 15, 15, 15, 0, 0}},
		{"fffffffffffffffe", []int{15, 15, 15, 15, 15, 15, 15, 15, 15, 15, 15, 15, 15, 15, 15, 14, 0, 1}},
		{"0fffffffffffffff", []int{0, 15, 15, 15, 15, 15, 15, 15, 15, 15, 15, 15, 15, 15, 15, 15, 0, 15}},
		{"0effffffffffffff", []int{0, 14, 15, 15, 15, 15, 15, 15, 15, 15, 15, 15, 15, 15, 15, 15, 1, 0}},
		{"1000000000000000", []int{1, 0, 0, 0, 0, 0, 0, 0, 0, 0, 0, 0, 0, 0, 0, 0, 14, 15}},
		{"0123456789abcdef", []int{0, 1, 2, 3, 4, 5, 6, 7, 8, 9, 10, 11, 12, 13, 14, 15, 7, 8}},
		{"fedcba9876543210", []int{15, 14, 13, 12, 11, 10, 9, 8, 7, 6, 5, 4, 3, 2, 1, 0, 7, 8}},
	} {
		var got []int
		for k, d := range digits(messageWith(t, test.digest, "")) {
			if k != len(got) {
				t.Errorf("the chain %d comes as number %d", k, len(got))
			}
			got = append(got, d)
		}
		if !slices.Equal(got, test.want) {
			t.Errorf("the digits of %s: %d, want %d", test.digest, got, test.want)
		}
	}
}

func TestDigitsOfManyMessages(t *testing.T) {
	for n := range 2000 {
		message := fmt.Sprint("message ", n)
		var got []int
		for _, d := range digits(message) {
			got = append(got, d)
		}
		if !slices.Equal(got, specDigits(message)) {
			t.Fatalf("the digits of %q: %d", message, got)
		}
	}
}

// Ranging over digits may end anywhere.
func TestSomeDigits(t *testing.T) {
	for last := range 18 {
		count := 0
		for k := range digits("message") {
			count++
			if k == last {
				break
			}
		}
		if count != last+1 {
			t.Errorf("%d digits up to %d", count, last)
		}
	}
}

// At the ends of the checksum, all chains of a seal are at their ends too.
func TestSealsAtTheEndsOfChains(t *testing.T) {
	zeros, _ := Sign("secret", 1, 1, messageWith(t, "0000000000000000", ""))
	greatest, _ := Sign("secret", 1, 1, messageWith(t, "ffffffffffffffff", ""))
	ends := specEnds("secret", 1)
	for k := range 16 {
		if zeros.Sig[k] != specStart("secret", 1, k) || greatest.Sig[k] != ends[k] {
			t.Errorf("the chain %d: %s and %s", k, zeros.Sig[k], greatest.Sig[k])
		}
	}
	if zeros.Sig[16] != ends[16] || zeros.Sig[17] != specStart("secret", 1, 17) {
		t.Errorf("the checksum 15, 0: %s", zeros.Sig[16:])
	}
	if greatest.Sig[16] != specStart("secret", 1, 16) || greatest.Sig[17] != specStart("secret", 1, 17) {
		t.Errorf("the checksum 0, 0: %s", greatest.Sig[16:])
	}
}

// same reports whether two seals are equal.
func same(a, b api.Seal) bool {
	return a.Index == b.Index && slices.Equal(a.Sig, b.Sig) && slices.Equal(a.Path, b.Path)
}

// testSign fails the test if a seal is not the one of the chapter, or is not
// accepted for the public key (P3.2).
func testSign(t *testing.T, secret string, leaves []string, height, index int, message string) {
	t.Helper()
	got, err := Sign(secret, height, index, message)
	if !same(got, specSeal(secret, leaves, index, message)) || err != api.OK {
		t.Fatalf("Sign(%q, %d, %d, %q) = %v, %d", secret, height, index, message, got, err)
	}
	public, err := Public(secret, height)
	if err != api.OK || !Verify(public, message, got) {
		t.Fatalf("the seal of %q by %q, %d, %d is not accepted", message, secret, height, index)
	}
}

func TestAsTheChapterSays(t *testing.T) {
	for _, secret := range secrets {
		for height := range 4 {
			leaves := specLeaves(secret, height)
			root, _ := tree.Root(leaves)
			if got, err := Public(secret, height); got != root || err != api.OK {
				t.Errorf("Public(%q, %d) = %s, %d", secret, height, got, err)
			}
			for index := range leaves {
				for _, message := range messages(t) {
					testSign(t, secret, leaves, height, index, message)
				}
			}
		}
	}
}

func TestGreaterHeights(t *testing.T) {
	for height := 4; height <= 8; height++ {
		leaves := specLeaves("secret", height)
		n := len(leaves)
		for _, index := range []int{0, 1, 9, 10, n/2 - 1, n / 2, n - 2, n - 1} {
			testSign(t, "secret", leaves, height, index, fmt.Sprint("message ", index))
		}
	}
}

// P3.2, for each key of the greatest height.
func TestEachKeyOfTheGreatestHeight(t *testing.T) {
	leaves := specLeaves("secret", 8)
	public, _ := Public("secret", 8)
	for index := range 256 {
		message := fmt.Sprint("message ", index)
		if !Verify(public, message, specSeal("secret", leaves, index, message)) {
			t.Errorf("the seal by the key %d is not accepted", index)
		}
	}
}

var strangeHeights = []int{math.MinInt, -1 << 32, -64, -9, -8, -2, -1, 9, 10, 20, 63, 64, 65, 256, 1 << 32, 1<<32 + 2, math.MaxInt}

func TestHeightsOutOfRange(t *testing.T) {
	for _, height := range strangeHeights {
		if got, err := Public("secret", height); got != "" || err != api.ErrArg {
			t.Errorf("Public with the height %d = %q, %d", height, got, err)
		}
		for _, index := range []int{math.MinInt, -1, 0, 1, 1 << 62, math.MaxInt} {
			if got, err := Sign("secret", height, index, "message"); !reflect.DeepEqual(got, api.Seal{}) || err != api.ErrArg {
				t.Errorf("Sign with the height %d = %v, %d", height, got, err)
			}
		}
	}
}

func TestIndicesOutOfRange(t *testing.T) {
	for height := range 9 {
		n := 1 << height
		for _, index := range []int{math.MinInt, -1 << 32, -n - 1, -n, -2, -1, n, n + 1, 2*n - 1, 2 * n, 1 << 32, math.MaxInt} {
			if got, err := Sign("secret", height, index, "message"); !reflect.DeepEqual(got, api.Seal{}) || err != api.ErrArg {
				t.Errorf("Sign by the key %d of the height %d = %v, %d", index, height, got, err)
			}
		}
	}
}

// P3.6: the form of public keys and of seals, and that they are reproducible.
func TestForm(t *testing.T) {
	for height := range 9 {
		public, err := Public("secret", height)
		again, _ := Public("secret", height)
		if !digest.Is(public) || public != again || err != api.OK {
			t.Errorf("the public keys of the height %d: %q and %q, %d", height, public, again, err)
		}
		s, err := Sign("secret", height, 1<<height-1, "message")
		other, _ := Sign("secret", height, 1<<height-1, "message")
		if len(s.Sig) != 18 || len(s.Path) != height || !same(s, other) || err != api.OK {
			t.Errorf("the seals of the height %d: %v and %v, %d", height, s, other, err)
		}
		for _, text := range slices.Concat(s.Sig, s.Path) {
			if !digest.Is(text) {
				t.Errorf("a seal of the height %d has %q", height, text)
			}
		}
	}
}

// P3.6: a greater tree begins with the smaller one of its secret.
func TestHeightsHaveTheSameKeys(t *testing.T) {
	for height := range 8 {
		n := 1 << height
		small, _ := Public("secret", height)
		for _, index := range []int{0, n / 2, n - 1} {
			s, _ := Sign("secret", height, index, "message")
			g, err := Sign("secret", height+1, index, "message")
			if err != api.OK || !slices.Equal(s.Sig, g.Sig) || !slices.Equal(s.Path, g.Path[:height]) {
				t.Errorf("the key %d of the heights %d and %d", index, height, height+1)
			}
		}
		next, err := Sign("secret", height+1, n, "message")
		if err != api.OK || next.Path[height] != small {
			t.Errorf("the keys before the key %d are not those of the height %d", n, height)
		}
	}
}

// P1: whatever the texts are, there is a seal.
func TestStrangeTexts(t *testing.T) {
	for _, text := range []string{"\x00", "\x80\xc3(", strings.Repeat("\xff", 8), strings.Repeat("x", 1<<16), "\n", "äöü"} {
		public, err := Public(text, 1)
		if !digest.Is(public) || err != api.OK {
			t.Errorf("the public key of %.20q: %q, %d", text, public, err)
		}
		s, err := Sign(text, 1, 1, text)
		if err != api.OK || !Verify(public, text, s) {
			t.Errorf("the seal of %.20q: %d", text, err)
		}
	}
	long := strings.Repeat("x", 1<<20)
	public, _ := Public("secret", 0)
	if s, err := Sign("secret", 0, 0, long); err != api.OK || !Verify(public, long, s) || Verify(public, long[1:], s) {
		t.Error("a long message")
	}
}

// P3: what is returned can be changed without a later call being changed by it.
func TestIndependence(t *testing.T) {
	want, _ := Sign("secret", 3, 5, "message")
	public, _ := Public("secret", 3)
	for range 3 {
		got, _ := Sign("secret", 3, 5, "message")
		if !same(got, want) {
			t.Fatal("a call changed the result of another one")
		}
		kept := api.Seal{Index: 5, Sig: slices.Clone(got.Sig), Path: slices.Clone(got.Path)}
		if !Verify(public, "message", got) || !same(got, kept) {
			t.Fatal("an argument was changed")
		}
		for _, l := range [][]string{got.Sig, got.Path} {
			for i := range l {
				l[i] = "changed"
			}
		}
		if again, _ := Public("secret", 3); again != public || !Verify(public, "message", want) {
			t.Fatal("a call changed the result of another one")
		}
	}
}
