/-
  Promise R: the walks of the reference's SameAmounts, SameSlip, SameSlips and Same at lists that are the same; slipsAre; VoidSlip.
  Promise Q: the walks of the reference's SameEntry and SameJournal at what is the same.
-/
import Derived.Test.YtkalfdjmklakdaaGreatDoorKP
import Derived.Test.YtkalfdjmklakdaaGreatDoorKQ
import Derived.Lib.QuietBelow
namespace Go.Proofs.YtkalfdjmklakdaaGreatDoor.Sq.Slp
open Go.RowKit Go.Sort
set_option maxRecDepth 100000 in
set_option maxHeartbeats 2000000 in
theorem sameAmounts_yes (x y : Option Addr) (n c d : Nat) (l : List Am) (w : World) (hx : CameA w x l) (hy : CameA w y l) (hn : l.length = n) (hm : n ≤ 9223372036854775807) :
 Calls Tryz.prog 210 #[.slice x n c, .slice y n d] w fun e w' => e = .returned (.bool true) ∧ ∃ q, w' = w.drewN q := by
 have HX := Lib.hid (fun h0 => hx.open hn h0)
 have HY := Lib.hid (fun h0 => hy.open hn h0)
 have hnn : ((n : Int) != (n : Int)) = false := by simp
 clear hx hy hn
 go_enter Tryz.func210, Tryz.ntmps210
 go_wp2_with fail
 go_loopw [5] (fun i wr => ∃ k : Nat, k ≤ n ∧ i = .int .i64 k ∧ ∃ q, wr = w.drewN q) (fun i _ => n - (intOf i).toNat)
 case atStart => exact ⟨0, Nat.zero_le _, rfl, 0, rfl⟩
 case round =>
  obtain ⟨k, hk, rfl, q, rfl⟩ := hrel
  by_cases hlt : k < n
  ·have hlt' : (k : Int) < (n : Int) := by omega
   obtain ⟨b1, o1, rfl, hc1⟩ := HX.out (by omega)
   obtain ⟨b2, o2, rfl, hc2⟩ := HY.out (by omega)
   obtain ⟨x0, x1⟩ := hc1 w (Below.refl _ _) k hlt
   obtain ⟨y0, y1⟩ := hc2 w (Below.refl _ _) k hlt
   clear hc1 hc2
   generalize (anth l k).name = nm at *
   generalize (anth l k).mon = mo at *
   go_wp2_with fail
   go_quiet (fail)
   go_wp2_with fail
   go_roundw
   case rel => exact ⟨k + 1, by omega, by go_num, _, rfl⟩
   case measure => simp [intOf]; omega
  ·go_wp2_with fail
   go_ret
   exact ⟨rfl, _, rfl⟩
set_option maxRecDepth 100000 in
set_option maxHeartbeats 2000000 in
theorem sameSlip_yes (nu pe ru : Int) (g : Bool) (x y : Option Addr) (n c d : Nat) (l : List Am) (w : World) (hx : PsAt w x l) (hy : PsAt w y l) (hn : l.length = n) :
 Calls Tryz.prog 171 #[.agg #[.int .i64 nu, .int .i64 pe, .int .i64 ru, .bool g, .slice x n c], .agg #[.int .i64 nu, .int .i64 pe, .int .i64 ru, .bool g, .slice y n d]] w fun e w' => e = .returned (.bool true) ∧ Below w.heap.size w w' := by
 have HB : Hid (Below w.heap.size w ((w.alloc (.cells #[.int .i64 nu, .int .i64 pe, .int .i64 ru, .bool g, .slice x n c] 84)).alloc (.cells #[.int .i64 nu, .int .i64 pe, .int .i64 ru, .bool g, .slice y n d] 84))) := Lib.hid (((Below.refl w.heap.size w).alloc (Nat.le_refl _) _).alloc (by simp) _)
 have HX := Lib.hid (hx.below HB.out)
 have HY := Lib.hid (hy.below HB.out)
 have HN := Lib.hid hn
 clear hx hy hn
 have HM : Hid (n ≤ 9223372036854775807) := Lib.hid (by have h1 := HX.out.2.2; have h2 := HN.out; unfold maxLen at h1; omega)
 go_enter Tryz.func171, Tryz.ntmps171
 go_wp2_with fail
 refine (sameAmounts_yes x y n c d l _ HX.out.1 HY.out.1 HN.out HM.out).mono ?_
 rintro e w1 ⟨rfl, q, hw⟩
 subst hw
 have HB2 := Lib.hid (kbelow_dN HB.out q)
 go_wp2_with fail
 go_ret
 exact ⟨kret_bool (by first | rfl | simp), HB2.out⟩
set_option maxRecDepth 100000 in
set_option maxHeartbeats 4000000 in
theorem sameSlips_yes (x y : Option Addr) (n c d : Nat) (l : List Sl) (w : World) (hx : CameS w x l) (hy : CameS w y l) (hn : l.length = n) (hm : n ≤ 1000) :
 Calls Tryz.prog 124 #[.slice x n c, .slice y n d] w fun e w' => e = .returned (.bool true) ∧ Below w.heap.size w w' := by
 have HX := Lib.hid (fun h0 => hx.open hn h0)
 have HY := Lib.hid (fun h0 => hy.open hn h0)
 have hnn : ((n : Int) != (n : Int)) = false := by simp
 clear hx hy hn
 go_enter Tryz.func124, Tryz.ntmps124
 go_wp2_with fail
 go_loopw [5] (fun i wr => ∃ k : Nat, k ≤ n ∧ i = .int .i64 k ∧ Below w.heap.size w wr) (fun i _ => n - (intOf i).toNat)
 case atStart => exact ⟨0, Nat.zero_le _, rfl, Below.refl _ _⟩
 case round =>
  obtain ⟨k, hk, rfl, hb⟩ := hrel
  have HB := Lib.hid hb
  clear hb
  by_cases hlt : k < n
  ·have hlt' : (k : Int) < (n : Int) := by omega
   obtain ⟨b1, o1, rfl, hc1⟩ := HX.out (by omega)
   obtain ⟨b2, o2, rfl, hc2⟩ := HY.out (by omega)
   obtain ⟨⟨x0, x1, x2, x3⟩, ax, cx, x4, hpx⟩ := hc1 wr HB.out k hlt
   obtain ⟨⟨y0, y1, y2, y3⟩, ay, cy, y4, hpy⟩ := hc2 wr HB.out k hlt
   clear hc1 hc2
   have HK := Lib.hid (fun W (hW : Below wr.heap.size wr W) => sameSlip_yes (snth l k).num (snth l k).per (snth l k).run (snth l k).gone ax ay (snth l k).tot.length cx cy (snth l k).tot W (hpx.below hW) (hpy.below hW) rfl)
   clear hpx hpy
   have k0 := cell_regrown x0
   have k1 := cell_regrown x1
   have k2 := cell_regrown x2
   have k3 := cell_regrown x3
   have k4 := cell_regrown x4
   have j0 := cell_regrown y0
   have j1 := cell_regrown y1
   have j2 := cell_regrown y2
   have j3 := cell_regrown y3
   have j4 := cell_regrown y4
   go_wp2_with fail
   refine wp_region_quiet_below (by kernel_rfl) (by kernel_rfl) ?_
   repeat (quiet_step (exact Calls.regrown_of (HK.out _ (below_regrown _ _ _))))
   refine wpQuiet_nil ?_
   intro _ hw'
   obtain ⟨⟨dq, osq⟩, hw''⟩ := hw'
   subst hw''
   go_wp2_with fail
   go_roundw
   case rel => exact ⟨k + 1, by omega, by go_num, HB.out.trans ((below_regrown wr dq osq).mono HB.out.size)⟩
   case measure => simp [intOf]; omega
  ·go_wp2_with fail
   go_ret
   exact ⟨rfl, HB.out⟩
end Go.Proofs.YtkalfdjmklakdaaGreatDoor.Sq.Slp
namespace Go.Proofs.YtkalfdjmklakdaaGreatDoor.Sq.Ldg
open Go.RowKit
set_option maxRecDepth 100000 in
set_option maxHeartbeats 2000000 in
theorem sameEntry_yes (dy : Int) (x y : Option Addr) (n c d : Nat) (l : List Am) (w : World) (hx : PsAt w x l) (hy : PsAt w y l) (hn : l.length = n) :
 Calls Tryz.prog 172 #[.agg #[.int .i64 dy, .slice x n c], .agg #[.int .i64 dy, .slice y n d]] w fun e w' => e = .returned (.bool true) ∧ Go.RowKit.Below w.heap.size w w' := by
 obtain ⟨W, hW⟩ : ∃ W, (w.alloc (.cells #[.int .i64 dy, .slice x n c] 91)).alloc (.cells #[.int .i64 dy, .slice y n d] 91) = W := ⟨_, rfl⟩
 have HB : Hid (Go.RowKit.Below w.heap.size w W) := by subst hW; exact Lib.hid (((Below.refl w.heap.size w).alloc (Nat.le_refl _) _).alloc (by simp) _)
 have HX := Lib.hid (fun h0 => (hx.below HB.out).1.open hn h0)
 have HY := Lib.hid (fun h0 => (hy.below HB.out).1.open hn h0)
 have HM : Hid (n ≤ 9223372036854775807) := Lib.hid (by have h1 := hx.2.2; unfold maxLen at h1; omega)
 have hm := HM.out
 have hnn : ((n : Int) != (n : Int)) = false := by simp
 have a1 : W.cell? ⟨w.heap.size, 1, none⟩ = some (.slice x n c) := by
  subst hW
  rw [World.cell?_alloc_past (w := w.alloc (.cells #[.int .i64 dy, .slice x n c] 91)) _ _ _ (by simp)]
  exact World.cell?_alloc_at (w := w) _ _ _ _ rfl
 have b1 : W.cell? ⟨w.heap.size + 1, 1, none⟩ = some (.slice y n d) := by
  subst hW
  exact World.cell?_alloc_at _ _ _ _ (by simp)
 have a0 : W.cell? ⟨w.heap.size, 0, none⟩ = some (.int .i64 dy) := by
  subst hW
  rw [World.cell?_alloc_past (w := w.alloc (.cells #[.int .i64 dy, .slice x n c] 91)) _ _ _ (by simp)]
  exact World.cell?_alloc_at (w := w) _ _ _ _ rfl
 have b0 : W.cell? ⟨w.heap.size + 1, 0, none⟩ = some (.int .i64 dy) := by
  subst hW
  exact World.cell?_alloc_at _ _ _ _ (by simp)
 clear hx hy hn
 go_enter Tryz.func172, Tryz.ntmps172
 go_wp2_with fail
 clear hW
 go_loopw [5] (fun i wr => ∃ k : Nat, k ≤ n ∧ i = .int .i64 k ∧ ∃ q, wr = W.drewN q) (fun i _ => n - (intOf i).toNat)
 case atStart => exact ⟨0, Nat.zero_le _, rfl, 0, rfl⟩
 case round =>
  obtain ⟨k, hk, rfl, q, rfl⟩ := hrel
  by_cases hlt : k < n
  ·have hlt' : (k : Int) < (n : Int) := by omega
   obtain ⟨b1', o1, rfl, hc1⟩ := HX.out (by omega)
   obtain ⟨b2', o2, rfl, hc2⟩ := HY.out (by omega)
   obtain ⟨x0, x1⟩ := hc1 W (Below.refl _ _) k hlt
   obtain ⟨y0, y1⟩ := hc2 W (Below.refl _ _) k hlt
   clear hc1 hc2
   generalize (anth l k).name = nm at *
   generalize (anth l k).mon = mo at *
   go_wp2_with fail
   go_quiet (fail)
   go_wp2_with fail
   go_roundw
   case rel => exact ⟨k + 1, by omega, by go_num, _, rfl⟩
   case measure => simp [intOf]; omega
  ·go_wp2_with fail
   go_ret
   exact ⟨rfl, kbelow_dN HB.out q⟩
set_option maxRecDepth 100000 in
set_option maxHeartbeats 4000000 in
theorem sameJournal_yes (x y : Option Addr) (n c d : Nat) (l : List En) (w : World) (hx : CameE w x l) (hy : CameE w y l) (hn : l.length = n) (hm : n ≤ 1000) :
 Calls Tryz.prog 125 #[.slice x n c, .slice y n d] w fun e w' => e = .returned (.bool true) ∧ Go.RowKit.Below w.heap.size w w' := by
 have HX := Lib.hid (fun h0 => hx.open hn h0)
 have HY := Lib.hid (fun h0 => hy.open hn h0)
 have hnn : ((n : Int) != (n : Int)) = false := by simp
 clear hx hy hn
 go_enter Tryz.func125, Tryz.ntmps125
 go_wp2_with fail
 go_loopw [5] (fun i wr => ∃ k : Nat, k ≤ n ∧ i = .int .i64 k ∧ Below w.heap.size w wr) (fun i _ => n - (intOf i).toNat)
 case atStart => exact ⟨0, Nat.zero_le _, rfl, Below.refl _ _⟩
 case round =>
  obtain ⟨k, hk, rfl, hb⟩ := hrel
  have HB := Lib.hid hb
  clear hb
  by_cases hlt : k < n
  ·have hlt' : (k : Int) < (n : Int) := by omega
   obtain ⟨b1, o1, rfl, hc1⟩ := HX.out (by omega)
   obtain ⟨b2, o2, rfl, hc2⟩ := HY.out (by omega)
   obtain ⟨ax, cx, x0, x1, hpx⟩ := hc1 wr HB.out k hlt
   obtain ⟨ay, cy, y0, y1, hpy⟩ := hc2 wr HB.out k hlt
   clear hc1 hc2
   have HK := Lib.hid (fun W (hW : Below wr.heap.size wr W) => sameEntry_yes (enth l k).day ax ay (enth l k).ps.length cx cy (enth l k).ps W (hpx.below hW) (hpy.below hW) rfl)
   clear hpx hpy
   have k0 := cell_regrown x0
   have k1 := cell_regrown x1
   have j0 := cell_regrown y0
   have j1 := cell_regrown y1
   go_wp2_with fail
   refine wp_region_quiet_below (by kernel_rfl) (by kernel_rfl) ?_
   repeat (quiet_step (exact Calls.regrown_of (HK.out _ (below_regrown _ _ _))))
   refine wpQuiet_nil ?_
   intro _ hw'
   obtain ⟨⟨dq, osq⟩, hw''⟩ := hw'
   subst hw''
   go_wp2_with fail
   go_roundw
   case rel => exact ⟨k + 1, by omega, by go_num, HB.out.trans ((below_regrown wr dq osq).mono HB.out.size)⟩
   case measure => simp [intOf]; omega
  ·go_wp2_with fail
   go_ret
   exact ⟨rfl, HB.out⟩
end Go.Proofs.YtkalfdjmklakdaaGreatDoor.Sq.Ldg
