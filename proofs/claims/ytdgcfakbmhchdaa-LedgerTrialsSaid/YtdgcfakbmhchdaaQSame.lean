/-
  Promise Q: the walks of the reference's SameEntry and SameJournal at what is the same.
-/
import Derived.Test.YtdgcfakbmhchdaaQBegun
import Derived.Lib.QuietBelow
namespace Go.Proofs.Ytdgcfakbmhchdaa
open Go.RowKit

set_option maxRecDepth 100000 in
set_option maxHeartbeats 2000000 in
theorem sameEntry_yes (dy : Int) (x y : Option Addr) (n c d : Nat) (l : List Am) (w : World) (hx : PsAt w x l) (hy : PsAt w y l) (hn : l.length = n) :
    Calls Try.prog 19 #[.agg #[.int .i64 dy, .slice x n c], .agg #[.int .i64 dy, .slice y n d]] w fun e w' => e = .returned (.bool true) ∧ Go.RowKit.Below w.heap.size w w' := by
  obtain ⟨W, hW⟩ : ∃ W, (w.alloc (.cells #[.int .i64 dy, .slice x n c] 29)).alloc (.cells #[.int .i64 dy, .slice y n d] 29) = W := ⟨_, rfl⟩
  have HB : Hid (Go.RowKit.Below w.heap.size w W) := by subst hW; exact Lib.hid (((Below.refl w.heap.size w).alloc (Nat.le_refl _) _).alloc (by simp) _)
  have HX := Lib.hid (fun h0 => (hx.below HB.out).1.open hn h0)
  have HY := Lib.hid (fun h0 => (hy.below HB.out).1.open hn h0)
  have HM : Hid (n ≤ 9223372036854775807) := Lib.hid (by have h1 := hx.2.2; unfold maxLen at h1; omega)
  have hm := HM.out
  have hnn : ((n : Int) != (n : Int)) = false := by simp
  have a1 : W.cell? ⟨w.heap.size, 1, none⟩ = some (.slice x n c) := by
    subst hW
    rw [World.cell?_alloc_past (w := w.alloc (.cells #[.int .i64 dy, .slice x n c] 29)) _ _ _ (by simp)]
    exact World.cell?_alloc_at (w := w) _ _ _ _ rfl
  have b1 : W.cell? ⟨w.heap.size + 1, 1, none⟩ = some (.slice y n d) := by
    subst hW
    exact World.cell?_alloc_at _ _ _ _ (by simp)
  have a0 : W.cell? ⟨w.heap.size, 0, none⟩ = some (.int .i64 dy) := by
    subst hW
    rw [World.cell?_alloc_past (w := w.alloc (.cells #[.int .i64 dy, .slice x n c] 29)) _ _ _ (by simp)]
    exact World.cell?_alloc_at (w := w) _ _ _ _ rfl
  have b0 : W.cell? ⟨w.heap.size + 1, 0, none⟩ = some (.int .i64 dy) := by
    subst hW
    exact World.cell?_alloc_at _ _ _ _ (by simp)
  clear hx hy hn
  go_enter Try.func19, Try.ntmps19
  go_wp2_with fail
  clear hW
  go_loopw [5] (fun i wr => ∃ k : Nat, k ≤ n ∧ i = .int .i64 k ∧ ∃ q, wr = W.drewN q) (fun i _ => n - (intOf i).toNat)
  case atStart => exact ⟨0, Nat.zero_le _, rfl, 0, rfl⟩
  case round =>
    obtain ⟨k, hk, rfl, q, rfl⟩ := hrel
    by_cases hlt : k < n
    · have hlt' : (k : Int) < (n : Int) := by omega
      obtain ⟨b1', o1, rfl, hc1⟩ := HX.out (by omega)
      obtain ⟨b2', o2, rfl, hc2⟩ := HY.out (by omega)
      obtain ⟨x0, x1⟩ := hc1 W (Below.refl _ _) k hlt
      obtain ⟨y0, y1⟩ := hc2 W (Below.refl _ _) k hlt
      clear hc1 hc2
      generalize (anth l k).name = nm at *
      generalize (anth l k).mon = mo at *
      go_wp2_with fail
      go_quiet (fail)
      go_wp2_with fail
      go_roundw
      case rel => exact ⟨k + 1, by omega, by go_num, _, rfl⟩
      case measure => simp [intOf]; omega
    · go_wp2_with fail
      go_ret
      exact ⟨rfl, kbelow_dN HB.out q⟩
set_option maxRecDepth 100000 in
set_option maxHeartbeats 4000000 in
theorem sameJournal_yes (x y : Option Addr) (n c d : Nat) (l : List En) (w : World) (hx : CameE w x l) (hy : CameE w y l) (hn : l.length = n) (hm : n ≤ 1000) :
    Calls Try.prog 15 #[.slice x n c, .slice y n d] w fun e w' => e = .returned (.bool true) ∧ Go.RowKit.Below w.heap.size w w' := by
  have HX := Lib.hid (fun h0 => hx.open hn h0)
  have HY := Lib.hid (fun h0 => hy.open hn h0)
  have hnn : ((n : Int) != (n : Int)) = false := by simp
  clear hx hy hn
  go_enter Try.func15, Try.ntmps15
  go_wp2_with fail
  go_loopw [5] (fun i wr => ∃ k : Nat, k ≤ n ∧ i = .int .i64 k ∧ Below w.heap.size w wr) (fun i _ => n - (intOf i).toNat)
  case atStart => exact ⟨0, Nat.zero_le _, rfl, Below.refl _ _⟩
  case round =>
    obtain ⟨k, hk, rfl, hb⟩ := hrel
    have HB := Lib.hid hb
    clear hb
    by_cases hlt : k < n
    · have hlt' : (k : Int) < (n : Int) := by omega
      obtain ⟨b1, o1, rfl, hc1⟩ := HX.out (by omega)
      obtain ⟨b2, o2, rfl, hc2⟩ := HY.out (by omega)
      obtain ⟨ax, cx, x0, x1, hpx⟩ := hc1 wr HB.out k hlt
      obtain ⟨ay, cy, y0, y1, hpy⟩ := hc2 wr HB.out k hlt
      clear hc1 hc2
      have HK := Lib.hid (fun W (hW : Below wr.heap.size wr W) => sameEntry_yes (enth l k).day ax ay (enth l k).ps.length cx cy (enth l k).ps W (hpx.below hW) (hpy.below hW) rfl)
      clear hpx hpy
      have k0 := cell_regrown x0
      have k1 := cell_regrown x1
      have j0 := cell_regrown y0
      have j1 := cell_regrown y1
      go_wp2_with fail
      refine wp_region_quiet_below (by kernel_rfl) (by kernel_rfl) ?_
      repeat (quiet_step (exact Calls.regrown_of (HK.out _ (below_regrown _ _ _))))
      refine wpQuiet_nil ?_
      intro _ hw'
      obtain ⟨⟨dq, osq⟩, hw''⟩ := hw'
      subst hw''
      go_wp2_with fail
      go_roundw
      case rel => exact ⟨k + 1, by omega, by go_num, HB.out.trans ((below_regrown wr dq osq).mono HB.out.size)⟩
      case measure => simp [intOf]; omega
    · go_wp2_with fail
      go_ret
      exact ⟨rfl, HB.out⟩
theorem sameEns_yes (v u : Value) (l : List En) (w : World) (hl : l.length ≤ 1000) (hv : EnsIn w v l) (hu : EnsIn w u l) :
    Calls Try.prog 15 #[v, u] w fun e w' => e = .returned (.bool true) ∧ Go.RowKit.Below w.heap.size w w' := by
  obtain ⟨x, c, rfl, hv⟩ := hv
  obtain ⟨y, d, rfl, hu⟩ := hu
  exact sameJournal_yes x y l.length c d l w hv hu rfl hl
end Go.Proofs.Ytdgcfakbmhchdaa
