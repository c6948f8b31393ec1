/-
  Promises M2, M4: the law's comparison of two answers; lists joined.
-/
import Derived.Test.YtfamnlaignjhkaaORefW
namespace Go.Proofs.Ytfamnlaignjhkaa
open Go.RowKit Go.Sort

theorem ListRet.det2 {g : Ky → Option Int} {w w' : World} {v v' : Value} {er er' : Int} (h : ListRet g w v er) (h' : ListRet g w' v' er') : er = er' ∧ ∃ L x c x' c', v = .slice x L.length c ∧ v' = .slice x' L.length c' ∧ CameO w x L ∧ CameO w' x' L ∧ L.length ≤ 400 ∧ (er ≠ 0 → L = []) := by
  rcases h with ⟨h1, rfl, rfl⟩ | ⟨h1, l, hl, hlen, rfl, rfl⟩ | ⟨h1, l, hl, hlen, hup, rfl, x, c, rfl, hc⟩ <;> rcases h' with ⟨h1', rfl, rfl⟩ | ⟨h1', l', hl', hlen', rfl, rfl⟩ | ⟨h1', l', hl', hlen', hup', rfl, x', c', rfl, hc'⟩
  · exact ⟨rfl, [], none, 0, none, 0, rfl, rfl, .inl rfl, .inl rfl, by simp, fun _ => rfl⟩
  · exact absurd h1' h1
  · exact absurd h1' h1
  · exact absurd h1 h1'
  · exact ⟨rfl, [], none, 0, none, 0, rfl, rfl, .inl rfl, .inl rfl, by simp, fun _ => rfl⟩
  · have := (list_perm hl hl').length_eq
    omega
  · exact absurd h1 h1'
  · have := (list_perm hl hl').length_eq
    omega
  · have e : l = l' := up_unique hup hup' (list_perm hl hl')
    subst e
    exact ⟨rfl, l, x, c, x', c', rfl, rfl, hc, hc', hlen, fun h => absurd rfl h⟩
set_option maxRecDepth 100000 in
set_option maxHeartbeats 1000000 in
theorem totalsAre_yes (x y : Option Addr) (n c d : Nat) (er : Int) (L : List Tt) (w : World) (hx : CameO w x L) (hy : CameO w y L) (hn : L.length = n) (h4 : n ≤ 1000) (h0 : er ≠ 0 → L = []) :
    Calls Try.prog 17 #[.slice x n c, .int .i64 er, .int .i64 er, .slice y n d] w fun e w' => e = .returned (.bool true) ∧ Go.RowKit.Below w.heap.size w w' := by
  have HX := Lib.hid hx
  have HY := Lib.hid hy
  have HN := Lib.hid hn
  by_cases he : er = 0
  · subst he
    clear hx hy hn h0
    go_enter Try.func17, Try.ntmps17
    go_wp2_with fail
    refine (sameTotals_yes x y n c d L _ HX.out HY.out HN.out h4).mono ?_
    rintro e w1 ⟨rfl, hb⟩
    have HB := Lib.hid hb
    clear hb
    go_wp2_with fail
    go_ret
    exact ⟨oret_bool (by simp), HB.out⟩
  · have he' : (er != 0) = true := by simp [he]
    obtain rfl := h0 he
    obtain rfl : n = 0 := by simpa using hn.symm
    have e2 : (er == er) = true := by simp
    have HXE : Hid (CameO w x []) := Lib.hid (.inl rfl)
    have HYE : Hid (CameO w none []) := Lib.hid (.inl rfl)
    clear hx hy hn h0 he HX HY HN
    go_enter Try.func17, Try.ntmps17
    go_wp2_with fail
    refine (sameTotals_yes x none 0 c 0 [] _ HXE.out HYE.out rfl (by omega)).mono ?_
    rintro e w1 ⟨rfl, hb⟩
    have HB := Lib.hid hb
    clear hb
    go_wp2_with fail
    go_ret
    exact ⟨oret_bool (by simp), HB.out⟩
theorem sgn_all (l : List Tt) : SgnIs l.length 1 l l := ⟨rfl, fun j hj => by rw [if_neg (by omega)]⟩
end Go.Proofs.Ytfamnlaignjhkaa
