/-
  Promise S1: a disk again, when the power is back: the walk of the disk's After.
-/
import Derived.Test.YtdnngcibmkdhhaaStGr
import Derived.Lib.AppendZeros
import Derived.Laws.OwnMore
set_option linter.unusedSimpArgs false
namespace Go.Proofs.Ytdnngcibmkdhhaa
open Go.RowKit

/-- A disk of the call's own, with these sectors. -/
def AftR (w : World) (secs : List ByteArray) (p : Int) (e : Ending) (w' : World) : Prop := ∃ b x c, e = .returned (.pointer (some ⟨b, 0, none⟩)) ∧ w.heap.size ≤ b ∧ DkAt w' b x c ⟨secs, p, 0, false⟩ ∧ (∀ a, x = some a → w.heap.size ≤ a.block) ∧ Below w.heap.size w w'
set_option maxRecDepth 100000 in
set_option maxHeartbeats 1000000 in
theorem after_any (b : Nat) (x : Option Addr) (c : Nat) (D : Dk) (p : Int) (w : World) (h : DkAt w b x c D) (h0 : 0 < D.secs.length) (hm : D.secs.length ≤ 100000) :
    Calls Try.prog 10 #[.pointer (some ⟨b, 0, none⟩), .int .i64 p] w fun e w' => AftR w D.secs p e w' := by
  obtain ⟨g, rfl, hgb, hgl, hc⟩ := h.2 h0
  have c1 := (h.1.below (kbelow_box w (.cells #[] 9))).four.1.1
  obtain ⟨v9, w9, hrun, hg9, hgb9⟩ := run_app_s (w.alloc (.cells #[] 9)) 38 w.heap.size (.slice (some ⟨w.heap.size, 0, none⟩) 0 0) [] (World.ownsRow_lit w #[] 0 (Nat.le_refl _) (Nat.zero_le _) rfl) g 0 D.secs.length c D.secs rfl (fun j hj => by
    rw [Nat.zero_add]
    exact ((kbelow_box w (.cells #[] 9)).cell (p := ⟨g, j, none⟩) hgl).trans (hc j hj).1) (by simp; omega) (by simp)
  obtain ⟨x9, c9, rfl, hx9, hrow⟩ := hg9.form
  have HB9 := Lib.hid ((kbelow_box w (.cells #[] 9)).grown hgb9 (by simp) (fun k hk => by have hk : some w.heap.size = some k := hk; injection hk with hk; omega))
  have HROW := Lib.hid hrow
  rw [List.nil_append] at hrun HROW
  clear h hc hrow hg9 hgb9
  generalize D.secs = l at *
  generalize hn : l.length = n at *
  go_enter Try.func10, Try.ntmps10
  go_wp2_with (at_builtin; refine Lib.wpList_append_run _ rfl _ _ _ _ rfl _ _ rfl rfl _ _ hrun ?_)
  go_ret
  refine ⟨w9.heap.size, x9, c9, rfl, HB9.out.size, ⟨by rw [hn]; exact four_made _ _ _ _ _ _, fun q => ?_⟩, hx9, HB9.out.alloc HB9.out.size _⟩
  obtain ⟨g9, e9, h1, h2, h3⟩ := HROW.out (by omega)
  exact ⟨g9, e9, by omega, by simp; omega, fun j hj => have hj' : j < l.length := hj; ⟨((kbelow_box w9 _).cell (p := ⟨g9, j, none⟩) h2).trans (h3 j (by omega)).1, ((kbelow_box w9 _).frozen (p := ⟨g9, j, none⟩) h2).trans (h3 j (by omega)).2⟩⟩
end Go.Proofs.Ytdnngcibmkdhhaa
