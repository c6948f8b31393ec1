/-
  Promise S1: the walks of the closures of a store's Open, Text and Save.
-/
import Derived.Test.YtdnngcibmkdhhaaStAsk
import Derived.Test.YtdnngcibmkdhhaaStKpt
import Derived.Handy
set_option linter.unusedSimpArgs false
namespace Go.Proofs.Ytdnngcibmkdhhaa
open Go.RowKit

set_option maxRecDepth 100000 in
set_option maxHeartbeats 1000000 in
theorem open1_few (db sb b : Nat) (x : Option Addr) (c : Nat) (D : Dk) (w : World) (h : DkAt w b x c D) (hd : w.cell? ⟨db, 0, none⟩ = some (.iface 24 (.pointer (some ⟨b, 0, none⟩)))) (h80 : D.secs.length < 80) :
    Calls Try.prog 15 #[.pointer (some ⟨db, 0, none⟩), .pointer (some ⟨sb, 0, none⟩)] w fun e w' => e = .returned (.int .i64 2) ∧ w' = w := by
  have HSC := Lib.hid (diskSectors_any b x c D w h)
  have hc : (D.secs.length : Int) < 80 := by omega
  have hc' : decide ((D.secs.length : Int) < 80) = true := decide_eq_true hc
  clear h h80
  go_enter Try.func15, Try.ntmps15
  go_wp2_with (go_at_call 7; refine HSC.out.mono ?_; rintro e w' ⟨rfl, h'⟩; subst w')
  go_ret
  exact ⟨rfl, rfl⟩
set_option maxRecDepth 100000 in
set_option maxHeartbeats 1000000 in
theorem open1_any (db sb q b : Nat) (x : Option Addr) (c : Nat) (D : Dk) (w : World) (h : DkAt w b x c D) (hs : StAt w q b false) (hg : GS D.secs) (ho : D.off = false) (hd : w.cell? ⟨db, 0, none⟩ = some (.iface 24 (.pointer (some ⟨b, 0, none⟩)))) (hsb : w.cell? ⟨sb, 0, none⟩ = some (.pointer (some ⟨q, 0, none⟩))) :
    Calls Try.prog 15 #[.pointer (some ⟨db, 0, none⟩), .pointer (some ⟨sb, 0, none⟩)] w fun e w' => e = .returned (.int .i64 0) ∧ Below w.heap.size w w' := by
  have HSC := Lib.hid (diskSectors_any b x c D w h)
  have HHD := Lib.hid (head_any q b x c D false w h hs hg ho)
  have h80 := hg.1.1
  have hc : ¬ (D.secs.length : Int) < 80 := by omega
  have hc' : decide ((D.secs.length : Int) < 80) = false := decide_eq_false hc
  clear h hs hg ho h80
  go_enter Try.func15, Try.ntmps15
  go_wp2_with (go_at_call 7; refine HSC.out.mono ?_; rintro e w' ⟨rfl, h'⟩; subst w')
  refine HHD.out.mono ?_
  rintro e w1 ⟨rfl, hb1⟩
  have HB1 := Lib.hid hb1
  obtain ⟨r00, r01⟩ := two_of w1 (.int .i64 0) (.int .i64 0) 48
  obtain ⟨f00, f01⟩ := two_fr w1 (.int .i64 0) (.int .i64 0) 48
  clear hb1
  go_wp2_with fail
  go_ret
  exact ⟨rfl, HB1.out.trans ((kbelow_box w1 _).mono HB1.out.size)⟩
set_option maxRecDepth 100000 in
set_option maxHeartbeats 1000000 in
theorem text1_any (sb tb q b : Nat) (x : Option Addr) (c : Nat) (D : Dk) (u : Value) (w : World) (h : DkAt w b x c D) (hs : StAt w q b false) (hg : GS D.secs) (ho : D.off = false) (hsb : w.cell? ⟨sb, 0, none⟩ = some (.pointer (some ⟨q, 0, none⟩))) (ht : w.cell? ⟨tb, 0, none⟩ = some u) (hz : w.frozen? ⟨tb, 0, none⟩ = false) :
    Calls Try.prog 17 #[.pointer (some ⟨sb, 0, none⟩), .pointer (some ⟨tb, 0, none⟩)] w fun e w' => e = .returned (.int .i64 0) ∧ Kp tb none w w' ∧ w'.cell? ⟨tb, 0, none⟩ = some (.string (keptT D.secs)) := by
  have HKP := Lib.hid (kept_any q b x c D false w h hs hg ho)
  generalize keptT D.secs = T at *
  have hlt := blt_of_cell ht
  clear h hs hg ho
  go_enter Try.func17, Try.ntmps17
  go_wp2_with fail
  refine HKP.out.mono ?_
  rintro e w1 ⟨rfl, hb1⟩
  have HB1 := Lib.hid hb1
  have y0 := (hb1.cell (p := ⟨tb, 0, none⟩) hlt).trans ht
  have y1 := (hb1.frozen (p := ⟨tb, 0, none⟩) hlt).trans hz
  clear hb1
  go_wp2_with fail
  go_ret
  exact ⟨rfl, (Kp.of HB1.out).trans (Kp.set w1 (.inl rfl) _), World.cell?_setCell_same _ _ _ y0⟩
set_option maxRecDepth 100000 in
set_option maxHeartbeats 1000000 in
theorem save1_long (tb sb : Nat) (s : ByteArray) (w : World) (ht : w.cell? ⟨tb, 0, none⟩ = some (.string s)) (hs : 2000 < s.size) :
    Calls Try.prog 19 #[.pointer (some ⟨tb, 0, none⟩), .pointer (some ⟨sb, 0, none⟩)] w fun e w' => e = .returned (.int .i64 2) ∧ w' = w := by
  have hc : (2000 : Int) < (s.size : Int) := by omega
  have hc' : decide ((2000 : Int) < (s.size : Int)) = true := decide_eq_true hc
  clear hs
  go_enter Try.func19, Try.ntmps19
  go_wp2_with fail
  go_ret
  exact ⟨rfl, rfl⟩
set_option maxRecDepth 100000 in
set_option maxHeartbeats 1000000 in
theorem save1_any (tb sb q b : Nat) (x : Option Addr) (c : Nat) (D : Dk) (s : ByteArray) (w : World) (h : DkAt w b x c D) (hs : StAt w q b false) (hg : GS D.secs) (ho : D.off = false) (hp : PW D 40) (hqb : q ≠ b) (hqx : ∀ a, x = some a → q ≠ a.block) (hsz : s.size ≤ 2000) (hsb : w.cell? ⟨sb, 0, none⟩ = some (.pointer (some ⟨q, 0, none⟩))) (ht : w.cell? ⟨tb, 0, none⟩ = some (.string s)) :
    Calls Try.prog 19 #[.pointer (some ⟨tb, 0, none⟩), .pointer (some ⟨sb, 0, none⟩)] w fun e w' => ∃ D' v, KeepR D s D' v ∧ e = .returned (.int .i64 v) ∧ DkAt w' b x c D' ∧ Kp b x w w' := by
  have HKP := Lib.hid (keep_any q b x c D false s w h hs hg ho hp hqb hqx hsz)
  have hc : ¬ (2000 : Int) < (s.size : Int) := by omega
  have hc' : decide ((2000 : Int) < (s.size : Int)) = false := decide_eq_false hc
  clear h hs hg ho hp hqx hsz
  go_enter Try.func19, Try.ntmps19
  go_wp2_with fail
  refine HKP.out.mono ?_
  rintro e w1 ⟨D', v, hk, rfl, hd, hkp⟩
  have HK := Lib.hid hk
  have HD := Lib.hid hd
  have HKq := Lib.hid hkp
  clear hk hd hkp
  go_wp2_with fail
  go_ret
  exact ⟨D', v, HK.out, rfl, HD.out, HKq.out⟩
end Go.Proofs.Ytdnngcibmkdhhaa
