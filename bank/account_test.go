package bank

import (
	"fmt"
	"testing"

	"paycycle/api"
)

func TestP1Account(t *testing.T) {
	for body, want := range map[string]string{
		"1234567890": anna, "0000000007": bert, "0000000000": "000000000098", "9999999999": "999999999951",
		"0000000001": "000000000195", "0000000096": "000000009604", "0000000097": "000000009798",
	} {
		accountIs(t, body, want, api.OK)
		isAccountIs(t, want, true)
	}
	for _, body := range []string{
		"", "1", "123456789", "12345678901", anna, "123456789x", "x234567890", " 234567890", "123456789 ", "+123456789", "-123456789", "12345.7890", "123456789\n", "123456789\x00", "123456789\xff", "\xff\xff\xff\xff\xff\xff\xff\xff\xff\xff",
		"12345678/0", "12345678:0", "\u0661\u0662\u0663\u0664\u0665", "12345678\u0661", "1234567\uff11", "\u0661\u0662\u0663\u0664\u0665\u0661\u0662\u0663\u0664\u0665",
	} {
		accountIs(t, body, "", api.ErrForm)
	}
}

// TestP1OneEnd: of the hundred ends of ten digits just one makes an account, from 02 to 98.
func TestP1OneEnd(t *testing.T) {
	var d draw
	for n := range 1000 {
		body := d.numeral(10)
		if n < 200 {
			body = fmt.Sprintf("%010d", n)
		}
		want := lookedFor(body)
		accountIs(t, body, want, api.OK)
		for end := range 100 {
			s := fmt.Sprintf("%s%02d", body, end)
			isAccountIs(t, s, s == want)
		}
	}
}

// TestP1Ends: 00, 01 and 99 would leave 1 by 97, too, where 97, 98 and 02 do.
func TestP1Ends(t *testing.T) {
	seen := map[string]int{}
	for n := range 97 {
		body := fmt.Sprintf("%010d", n)
		account, _ := Account(body)
		seen[account[10:]]++
		for right, other := range map[string]string{"97": "00", "98": "01", "02": "99"} {
			if account[10:] == right {
				isAccountIs(t, body+other, false)
			}
		}
	}
	if len(seen) != 97 || seen["02"] != 1 || seen["98"] != 1 || seen["97"] != 1 {
		t.Errorf("ends are %v", seen)
	}
}

func TestP1NoAccounts(t *testing.T) {
	for _, s := range noAccounts() {
		isAccountIs(t, s, false)
	}
	for _, s := range []string{" " + anna, anna + " ", anna + "\n", anna[1:], anna + anna} {
		isAccountIs(t, s, false)
	}
	for i := range anna {
		for c := range 256 {
			s := anna[:i] + string([]byte{byte(c)}) + anna[i+1:]
			isAccountIs(t, s, s == anna)
		}
	}
}
