/-
  Promise P2, of rules: the walks of the reference's SameExpr and SameLines at lines that are the same.
  The law's comparison of two tables (SameTable): of two that are alike.
-/
import Derived.Test.YtkalfdjmklakdaaGreatDoorKB
import Derived.Lib.QuietBelow
import Derived.BigQuiet
import Derived.Test.YtkalfdjmklakdaaGreatDoorKA
import Derived.Deep.RegionHeld3
set_option linter.unusedSimpArgs false
namespace Go.Proofs.YtkalfdjmklakdaaGreatDoor
open Go.RowKit
def Ex.like : Ex → Ex → Prop
 | .no, _ => False
 | .mk k n s m kid, y => y.k = k ∧ y.n = n ∧ y.s = s ∧ y.m = m ∧ ∀ j, j < m → (kid j).like (y.kid j)
def likes : List Ln → List Ln → Prop
 | [], [] => True
 | a :: r, b :: q => (b.kind = a.kind ∧ b.name = a.name ∧ a.ex.like b.ex) ∧ likes r q
 | _, _ => False
theorem like_self {w : World} : ∀ {x : Ex} {a : Option Addr}, KidsAt w x a → x.like x := by
 intro x
 induction x with
 | no => intro a h; exact h.elim
 | mk k n s m kid ih =>
   intro a h
   refine ⟨rfl, rfl, rfl, rfl, fun j hj => ?_⟩
   obtain ⟨_, _, h | ⟨b, off, rfl, _, h⟩⟩ := h
   ·omega
   ·obtain ⟨aj, _, _, h2⟩ := h j hj
    exact ih j h2
theorem likes_of : ∀ {l : List Ln}, (∀ r ∈ l, r.ex.like r.ex) → likes l l
 | [], _ => trivial
 | a :: _, h => ⟨⟨rfl, rfl, h a (List.mem_cons_self ..)⟩, likes_of fun q hq => h q (List.mem_cons_of_mem _ hq)⟩
theorem likes_self {w : World} {x : Option Addr} {l : List Ln} (h : CameL w x l) : likes l l := likes_of fun r hr => by
 obtain ⟨j, hj, rfl⟩ := List.mem_iff_getElem.1 hr
 obtain ⟨_, _, _, h⟩ := h.open rfl (by omega)
 obtain ⟨_, _, _, _, hk⟩ := h w (Below.refl _ _) j hj
 have e : lnth l j = l[j] := by unfold lnth; rw [List.getD_eq_getElem?_getD, List.getElem?_eq_getElem hj]; rfl
 rw [e] at hk
 exact like_self hk
set_option maxRecDepth 100000 in
set_option maxHeartbeats 4000000 in
theorem sameExpr_like : ∀ (x y : Ex), x.like y → ∀ (a b : Option Addr) (c d : Nat) (w : World), KidsAt w x a → KidsAt w y b →
 Calls Tryz.prog 170 #[.agg #[.int .i64 x.k, .int .i64 x.n, .string x.s, .slice a x.m c], .agg #[.int .i64 y.k, .int .i64 y.n, .string y.s, .slice b y.m d]] w fun e w' => e = .returned (.bool true) ∧ Below w.heap.size w w' := by
 intro x
 induction x with
 | no => intro y h; rw [Ex.like] at h; exact h.elim
 | mk k n s m kid ih =>
   intro y h a b c d w hx hy
   rw [Ex.like] at h
   obtain ⟨h1, h2, h3, h4, h5⟩ := h
   rw [h1, h2, h3, h4]
   show Calls Tryz.prog 170 #[.agg #[.int .i64 k, .int .i64 n, .string s, .slice a m c], .agg #[.int .i64 k, .int .i64 n, .string s, .slice b m d]] w _
   have HB0 : Hid (Below w.heap.size w ((w.alloc (.cells #[.int .i64 k, .int .i64 n, .string s, .slice a m c] 71)).alloc (.cells #[.int .i64 k, .int .i64 n, .string s, .slice b m d] 71))) := Lib.hid (((Below.refl w.heap.size w).alloc (Nat.le_refl _) _).alloc (by simp) _)
   have HXO := Lib.hid (fun (h0 : 0 < m) => (hx.below HB0.out).open h0)
   have HYO := Lib.hid (fun (h0 : 0 < m) => (hy.below HB0.out).open (by rw [h4]; exact h0))
   rw [h4] at HYO
   have HIH := Lib.hid (fun j hj => ih j (y.kid j) (h5 j hj))
   have hm9 : m ≤ 9223372036854775807 := by have := hx.many; simp only [Ex.m] at this; unfold maxLen at this; omega
   have u3 : ((w.alloc (.cells #[.int .i64 k, .int .i64 n, .string s, .slice a m c] 71)).alloc (.cells #[.int .i64 k, .int .i64 n, .string s, .slice b m d] 71)).cell? ⟨w.heap.size, 3, none⟩ = some (.slice a m c) := by simp
   have v3 : ((w.alloc (.cells #[.int .i64 k, .int .i64 n, .string s, .slice a m c] 71)).alloc (.cells #[.int .i64 k, .int .i64 n, .string s, .slice b m d] 71)).cell? ⟨w.heap.size + 1, 3, none⟩ = some (.slice b m d) := by simp
   have HU := Lib.hid u3
   have HV := Lib.hid v3
   have hnk : (k != k) = false := by simp
   have hnn : (n != n) = false := by simp
   have hnm : ((m : Int) != (m : Int)) = false := by simp
   clear hx hy h1 h2 h3 h4 h5 ih u3 v3
   go_enter Tryz.func170, Tryz.ntmps170
   go_wp2_with fail
   generalize ((w.alloc (.cells #[.int .i64 k, .int .i64 n, .string s, .slice a m c] 71)).alloc (.cells #[.int .i64 k, .int .i64 n, .string s, .slice b m d] 71)) = W at *
   go_loopw [5] (fun i wr => ∃ j : Nat, j ≤ m ∧ i = .int .i64 j ∧ Below W.heap.size W wr) (fun i _ => m - (intOf i).toNat)
   case atStart => exact ⟨0, Nat.zero_le _, rfl, Below.refl _ _⟩
   case round =>
    obtain ⟨j, hj, rfl, hb⟩ := hrel
    have HB := Lib.hid hb
    have u3 := (HB.out.cell (p := ⟨w.heap.size, 3, none⟩) (blt_of_cell HU.out)).trans HU.out
    have v3 := (HB.out.cell (p := ⟨w.heap.size + 1, 3, none⟩) (blt_of_cell HV.out)).trans HV.out
    clear hb
    by_cases hlt : j < m
    ·have hlt' : (j : Int) < (m : Int) := by omega
     obtain ⟨b1, o1, rfl, hc1⟩ := HXO.out (by omega)
     obtain ⟨b2, o2, rfl, hc2⟩ := HYO.out (by omega)
     obtain ⟨aj, cj, ⟨p0, p1, p2, p3⟩, hk1⟩ := hc1 wr HB.out j hlt
     obtain ⟨bj, dj, ⟨q0, q1, q2, q3⟩, hk2⟩ := hc2 wr HB.out j hlt
     have p0' : wr.cell? ⟨b1, o1 + j * 4, none⟩ = some (.int .i64 (kid j).k) := p0
     have p1' : wr.cell? ⟨b1, o1 + j * 4 + 1, none⟩ = some (.int .i64 (kid j).n) := p1
     have p2' : wr.cell? ⟨b1, o1 + j * 4 + 2, none⟩ = some (.string (kid j).s) := p2
     have p3' : wr.cell? ⟨b1, o1 + j * 4 + 3, none⟩ = some (.slice aj (kid j).m cj) := p3
     have HKJ := Lib.hid (fun W' (hW : Below wr.heap.size wr W') => HIH.out j hlt aj bj cj dj W' (hk1.below hW) (hk2.below hW))
     clear hc1 hc2 hk1 hk2 p0 p1 p2 p3
     generalize (kid j).k = xk at *
     generalize (kid j).n = xn at *
     generalize (kid j).s = xs at *
     generalize (kid j).m = xm at *
     generalize (y.kid j).k = yk at *
     generalize (y.kid j).n = yn at *
     generalize (y.kid j).s = ys at *
     generalize (y.kid j).m = ym at *
     have k0 := cell_regrown p0'
     have k1 := cell_regrown p1'
     have k2 := cell_regrown p2'
     have k3 := cell_regrown p3'
     have j0 := cell_regrown q0
     have j1 := cell_regrown q1
     have j2 := cell_regrown q2
     have j3 := cell_regrown q3
     have l0 := cell_regrown u3
     have l1 := cell_regrown v3
     go_wp2_with fail
     refine wp_region_quiet_below (by kernel_rfl) (by kernel_rfl) ?_
     repeat (quiet_step (exact Calls.regrown_of (HKJ.out _ (below_regrown _ _ _))))
     refine wpQuiet_nil ?_
     intro _ hw'
     obtain ⟨⟨dq, osq⟩, hw''⟩ := hw'
     subst hw''
     have HB2 := Lib.hid (HB.out.trans ((below_regrown wr dq osq).mono HB.out.size))
     go_wp2_with fail
     go_roundw
     case rel => exact ⟨j + 1, by omega, by go_num, HB2.out⟩
     case measure => simp [intOf]; omega
    ·have hltB : decide ((j : Int) < (m : Int)) = false := decide_eq_false (by omega)
     have HBE := Lib.hid (HB0.out.trans (HB.out.mono HB0.out.size))
     go_wp2_with fail
     go_ret
     exact ⟨rfl, HBE.out⟩
theorem likes_at : ∀ {l l' : List Ln}, likes l l' → l'.length = l.length ∧ ∀ j, j < l.length → (lnth l' j).kind = (lnth l j).kind ∧ (lnth l' j).name = (lnth l j).name ∧ (lnth l j).ex.like (lnth l' j).ex
 | [], [], _ => ⟨rfl, fun j hj => absurd hj (by simp)⟩
 | a :: r, b :: q, h => by
   obtain ⟨h1, h2⟩ := likes_at h.2
   refine ⟨by simp [h1], fun j hj => ?_⟩
   cases j with
   | zero => exact h.1
   | succ j => exact h2 j (by simpa using hj)
 | [], _ :: _, h => h.elim
 | _ :: _, [], h => h.elim
set_option maxRecDepth 100000 in
set_option maxHeartbeats 4000000 in
theorem sameLines_likes (x y : Option Addr) (n c d : Nat) (l l' : List Ln) (w : World) (hx : CameL w x l) (hy : CameL w y l') (hl : likes l l') (hn : l.length = n) (hm : n ≤ maxLen) :
 Calls Tryz.prog 123 #[.slice x n c, .slice y n d] w fun e w' => e = .returned (.bool true) ∧ Below w.heap.size w w' := by
 obtain ⟨hl1, hl2⟩ := likes_at hl
 have HX := Lib.hid (fun h0 => hx.open hn h0)
 have HY := Lib.hid (fun h0 => hy.open (hl1.trans hn) h0)
 have HLK := Lib.hid (fun j (hj : j < n) => hl2 j (by omega))
 have hnn : ((n : Int) != (n : Int)) = false := by simp
 have hm9 : n ≤ 9223372036854775807 := by unfold maxLen at hm; omega
 clear hx hy hn hl hl1 hl2 hm
 go_enter Tryz.func123, Tryz.ntmps123
 go_wp2_with fail
 go_loopw [5] (fun i wr => ∃ j : Nat, j ≤ n ∧ i = .int .i64 j ∧ Below w.heap.size w wr) (fun i _ => n - (intOf i).toNat)
 case atStart => exact ⟨0, Nat.zero_le _, rfl, Below.refl _ _⟩
 case round =>
  obtain ⟨j, hj, rfl, hb⟩ := hrel
  have HB := Lib.hid hb
  clear hb
  by_cases hlt : j < n
  ·have hlt' : (j : Int) < (n : Int) := by omega
   obtain ⟨b1, o1, rfl, hc1⟩ := HX.out (by omega)
   obtain ⟨b2, o2, rfl, hc2⟩ := HY.out (by omega)
   obtain ⟨aj, cj, ⟨x0, x1, x2, x3, x4, x5⟩, -, hk1⟩ := hc1 wr HB.out j hlt
   obtain ⟨bj, dj, ⟨y0, y1, y2, y3, y4, y5⟩, -, hk2⟩ := hc2 wr HB.out j hlt
   obtain ⟨e1, e2, e3⟩ := HLK.out j hlt
   rw [e1] at y0
   rw [e2] at y1
   have HKJ := Lib.hid (fun W' (hW : Below wr.heap.size wr W') => sameExpr_like _ _ e3 aj bj cj dj W' (hk1.below hW) (hk2.below hW))
   clear hc1 hc2 hk1 hk2 e1 e2 e3
   generalize (lnth l j).kind = lk at *
   generalize (lnth l j).name = ln at *
   generalize (lnth l j).ex.k = xk at *
   generalize (lnth l j).ex.n = xn at *
   generalize (lnth l j).ex.s = xs at *
   generalize (lnth l j).ex.m = xm at *
   generalize (lnth l' j).ex.k = yk at *
   generalize (lnth l' j).ex.n = yn at *
   generalize (lnth l' j).ex.s = ys at *
   generalize (lnth l' j).ex.m = ym at *
   have k0 := cell_regrown x0
   have k1 := cell_regrown x1
   have k2 := cell_regrown x2
   have k3 := cell_regrown x3
   have k4 := cell_regrown x4
   have k5 := cell_regrown x5
   have j0 := cell_regrown y0
   have j1 := cell_regrown y1
   have j2 := cell_regrown y2
   have j3 := cell_regrown y3
   have j4 := cell_regrown y4
   have j5 := cell_regrown y5
   have hnk : (lk != lk) = false := by simp
   go_wp2_with fail
   refine wp_region_quiet_below (by kernel_rfl) (by kernel_rfl) ?_
   repeat (go_big_quiet_step (exact Calls.regrown_of (HKJ.out _ (below_regrown _ _ _))))
   refine wpQuiet_nil ?_
   intro _ hw'
   obtain ⟨⟨dq, osq⟩, hw''⟩ := hw'
   subst hw''
   have HB2 := Lib.hid (HB.out.trans ((below_regrown wr dq osq).mono HB.out.size))
   go_wp2_with fail
   go_roundw
   case rel => exact ⟨j + 1, by omega, by go_num, HB2.out⟩
   case measure => simp [intOf]; omega
  ·have hltB : decide ((j : Int) < (n : Int)) = false := decide_eq_false (by omega)
   go_wp2_with fail
   go_ret
   exact ⟨rfl, HB.out⟩
end Go.Proofs.YtkalfdjmklakdaaGreatDoor
namespace Go.Proofs.YtkalfdjmklakdaaGreatDoor
open Go.RowKit
set_option maxRecDepth 100000 in
set_option maxHeartbeats 1000000 in
theorem sameTable_yes (s : ByteArray) (x y : Option Addr) (n c d : Nat) (l : List Bk) (w : World) (hx : CameB w x l) (hy : CameB w y l) (hn : l.length = n) (h24 : n ≤ 9223372036854775807) :
 Calls Tryz.prog 126 #[.agg #[.string s, .slice x n c], .agg #[.string s, .slice y n d]] w fun e w' => e = .returned (.bool true) ∧ Below w.heap.size w w' := by
 have HX := Lib.hid hx
 have HY := Lib.hid hy
 clear hx hy
 have hz1 : (w.alloc (.cells #[.string s, .slice x n c] 135)).heap.size = w.heap.size + 1 := by simp
 have hT1 := TIs.made w s x n c 135
 have hU2 := TIs.made (w.alloc (.cells #[.string s, .slice x n c] 135)) s y n d 135
 rw [hz1] at hU2
 have HT0 := Lib.hid (hT1.below (kbelow_box _ (.cells #[.string s, .slice y n d] 135)) hT1.1)
 have HU0 := Lib.hid hU2
 have HB0 := Lib.hid ((kbelow_box w (.cells #[.string s, .slice x n c] 135)).alloc (kbelow_box w (.cells #[.string s, .slice x n c] 135)).size (.cells #[.string s, .slice y n d] 135))
 clear hT1 hU2 hz1
 have e1 : (s.toList != s.toList) = false := by simp
 have e2 : ((n : Int) != (n : Int)) = false := by simp
 go_enter Tryz.func126, Tryz.ntmps126
 obtain ⟨_, x0, x1⟩ := HT0.out
 obtain ⟨_, y0, y1⟩ := HU0.out
 go_wp2_with fail
 generalize ((w.alloc (.cells #[.string s, .slice x n c] 135)).alloc (.cells #[.string s, .slice y n d] 135)) = W at *
 go_loopw [5] (fun i wr => ∃ k : Nat, k ≤ n ∧ i = .int .i64 k ∧ Below W.heap.size W wr) (fun i _ => n - (intOf i).toNat)
 case atStart => exact ⟨0, Nat.zero_le _, rfl, Below.refl _ _⟩
 case round =>
  obtain ⟨k, hk, rfl, hbr⟩ := hrel
  have HBR := Lib.hid hbr
  have HBW := Lib.hid (HB0.out.trans (hbr.mono HB0.out.size))
  have HT1 := Lib.hid (HT0.out.below hbr HT0.out.1)
  have HU1 := Lib.hid (HU0.out.below hbr HU0.out.1)
  clear hbr x0 x1 y0 y1
  obtain ⟨_, x0, x1⟩ := HT1.out
  obtain ⟨_, y0, y1⟩ := HU1.out
  by_cases hlt : k < n
  ·have hlt' : (k : Int) < (n : Int) := by omega
   obtain ⟨b, off, rfl, hcell⟩ := HX.out.open hn (by omega)
   obtain ⟨b', off', rfl, hcell'⟩ := HY.out.open hn (by omega)
   obtain ⟨u0, u1⟩ := hcell wr HBW.out k hlt
   obtain ⟨v0, v1⟩ := hcell' wr HBW.out k hlt
   clear hcell hcell'
   generalize (bnth l k).frm = f at *
   generalize (bnth l k).rate = r at *
   have n0 : (f != f) = false := by simp
   have n1 : (r != r) = false := by simp
   go_wp2_with fail
   go_quiet (fail)
   go_wp2_with fail
   go_roundw
   case rel => exact ⟨k + 1, by omega, by go_num, kbelow_dN HBR.out _⟩
   case measure => simp [intOf]; omega
  ·have hnl : decide ((k : Int) < (n : Int)) = false := decide_eq_false (by omega)
   go_wp2_with fail
   go_ret
   exact ⟨rfl, HBW.out⟩
end Go.Proofs.YtkalfdjmklakdaaGreatDoor
