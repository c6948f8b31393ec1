/-
  Promise Q2: the walk of Turn.
-/
import Derived.Test.YtdgcfakbmhchdaaQSame
namespace Go.Proofs.Ytdgcfakbmhchdaa
open Go.RowKit

theorem jrE_one (e : En) : jrE [e] = enE e := by
  unfold jrE ensE ensE
  rw [if_neg (by simp)]
  by_cases h : enE e = 0
  · rw [if_pos h, if_pos rfl, h]
    rfl
  · rw [if_neg h, if_neg h]
/-- The first k turned. -/
def ngM (l : List Am) (k i : Nat) : Int := if i < k then -(anth l i).mon else (anth l i).mon
def neg (l : List Am) : List Am := l.map fun p => ⟨p.name, -p.mon⟩
theorem neg_len (l : List Am) : (neg l).length = l.length := by simp [neg]
theorem neg_at (l : List Am) {i : Nat} (h : i < l.length) : anth (neg l) i = ⟨(anth l i).name, -(anth l i).mon⟩ := by
  simp [neg, anth, List.getElem?_eq_getElem h]
/-- Postings of the call's own, whose first k are turned. -/
def Tur (w : World) (b off : Nat) (l : List Am) (k : Nat) : Prop := b < w.heap.size ∧ ∀ i, i < l.length → w.cell? ⟨b, off + i * 2, none⟩ = some (.string (anth l i).name) ∧ w.cell? ⟨b, off + i * 2 + 1, none⟩ = some (.int .i64 (ngM l k i)) ∧ w.frozen? ⟨b, off + i * 2 + 1, none⟩ = false
theorem Tur.step {w : World} {g : Nat} {l : List Am} {k : Nat} (h : Tur w g 0 l k) (hk : k < l.length) {mo : Int} (hm : (anth l k).mon = mo) : Tur (w.setCell ⟨g, k * 2 + 1, none⟩ (.int .i64 (-mo))).drew g 0 l (k + 1) := by
  refine ⟨by show g < (w.setCell _ _).heap.size; simpa using h.1, fun i hi => ?_⟩
  obtain ⟨q0, q1, q2⟩ := h.2 i hi
  refine ⟨?_, ?_, ?_⟩
  · show (w.setCell _ _).cell? _ = _
    rw [World.cell?_setCell_other (h := fun e => by injection e; omega)]
    exact q0
  · show (w.setCell _ _).cell? _ = _
    by_cases e : i = k
    · subst e
      rw [Nat.zero_add] at q1 ⊢
      rw [World.cell?_setCell_same _ _ _ q1]
      simp [ngM, hm]
    · rw [World.cell?_setCell_other (h := fun e => by injection e; omega), q1]
      unfold ngM
      by_cases hik : i < k
      · rw [if_pos hik, if_pos (by omega)]
      · rw [if_neg hik, if_neg (by omega)]
  · show (w.setCell _ _).frozen? _ = _
    rw [World.frozen?_setCell]
    exact q2
theorem Tur.set {w : World} {g : Nat} {l : List Am} {k : Nat} (h : Tur w g 0 l k) {p : Addr} (hp : p.block ≠ g) (v : Value) : Tur (w.setCell p v) g 0 l k := by
  refine ⟨by simpa using h.1, fun i hi => ?_⟩
  obtain ⟨q0, q1, q2⟩ := h.2 i hi
  exact ⟨by rw [World.cell?_setCell_other (h := fun e => hp (by rw [e]))]; exact q0, by rw [World.cell?_setCell_other (h := fun e => hp (by rw [e]))]; exact q1, by rw [World.frozen?_setCell]; exact q2⟩
theorem Tur.ps {w : World} {g : Nat} {l : List Am} (h : Tur w g 0 l l.length) (hf : NamesFit l) (hm : l.length ≤ maxLen) : PsAt w (some ⟨g, 0, none⟩) (neg l) := by
  refine ⟨.inr ⟨g, 0, rfl, h.1, fun i hi => ?_⟩, fun i hi => ?_, by rw [neg_len]; exact hm⟩
  · rw [neg_len] at hi
    obtain ⟨q0, q1, _⟩ := h.2 i hi
    rw [neg_at l hi]
    exact ⟨q0, by rw [q1]; simp [ngM, hi]⟩
  · rw [neg_len] at hi
    rw [neg_at l hi]
    exact hf i hi
theorem mon_bd {l : List Am} (h : assB l = true) (i : Nat) : -1000000000000 ≤ (anth l i).mon ∧ (anth l i).mon ≤ 1000000000000 := by
  by_cases hi : i < l.length
  · have h2 := List.all_eq_true.1 h _ (anth_mem hi)
    unfold asB someB at h2
    simp at h2
    exact monB_iff.1 h2.2
  · have e : anth l i = ⟨⟨#[]⟩, 0⟩ := by unfold anth; rw [List.getD_eq_getElem?_getD, List.getElem?_eq_none (by omega)]; rfl
    rw [e]
    exact ⟨by decide, by decide⟩
theorem one_came {w : World} {d : Int} {ax : Option Addr} {m cx : Nat} {ps : List Am} (hp : PsAt w ax ps) (hm : ps.length = m) : CameE (w.alloc (.cells #[.int .i64 d, .slice ax m cx] 29)) (some ⟨w.heap.size, 0, none⟩) [⟨d, ps⟩] := by
  refine .inr ⟨_, _, rfl, by simp, fun j hj => ?_⟩
  obtain rfl : j = 0 := by simpa using hj
  exact ⟨ax, cx, World.cell?_alloc_at (w := w) _ _ _ _ rfl, by subst hm; exact World.cell?_alloc_at (w := w) _ _ _ _ rfl, hp.below (kbelow_box w _)⟩
set_option maxRecDepth 100000 in
set_option maxHeartbeats 4000000 in
theorem Turn_any (d : Int) (ax : Option Addr) (m cx : Nat) (ps : List Am) (w : World) (hp : PsAt w ax ps) (hm : ps.length = m) :
    Calls Try.prog 16 #[.agg #[.int .i64 d, .slice ax m cx]] w fun e w' => (enE ⟨d, ps⟩ ≠ 0 → e = .returned (.tuple #[.agg #[.int .i64 0, .slice none 0 0], .int .i64 (enE ⟨d, ps⟩)])) ∧ (enE ⟨d, ps⟩ = 0 → ∃ x c, e = .returned (.tuple #[.agg #[.int .i64 d, .slice x m c], .int .i64 0]) ∧ PsAt w' x (neg ps)) ∧ Go.RowKit.Below w.heap.size w w' := by
  obtain ⟨W0, hW0⟩ : ∃ W0, (w.alloc (.cells #[.int .i64 d, .slice ax m cx] 29)).alloc (.cells #[.int .i64 0, .slice none 0 0] 29) = W0 := ⟨_, rfl⟩
  have HB0 : Hid (Go.RowKit.Below w.heap.size w W0) := by subst hW0; exact Lib.hid (((Below.refl w.heap.size w).alloc (Nat.le_refl _) _).alloc (by simp) _)
  have hx : W0.heap[w.heap.size]? = some (.cells #[.int .i64 d, .slice ax m cx] 29 (0, 0)) := by subst hW0; exact (Below.heap_alloc _ _ _ (by simp)).trans (World.alloc_heap_new w _)
  have hr : W0.heap[w.heap.size + 1]? = some (.cells #[.int .i64 0, .slice none 0 0] 29 (0, 0)) := by
    have := World.alloc_heap_new (w.alloc (.cells #[.int .i64 d, .slice ax m cx] 29)) (.cells #[.int .i64 0, .slice none 0 0] 29)
    rw [hW0, World.size_alloc] at this
    exact this
  have HHX := Lib.hid hx
  have HHR := Lib.hid hr
  have x0 : W0.cell? ⟨w.heap.size, 0, none⟩ = some (.int .i64 d) := by simp [World.cell?, hx]
  have x1 : W0.cell? ⟨w.heap.size, 1, none⟩ = some (.slice ax m cx) := by simp [World.cell?, hx]
  have HP := Lib.hid (hp.below HB0.out)
  have HM := Lib.hid hm
  have hsW : W0.heap.size = w.heap.size + 2 := by subst hW0; simp
  have HSW := Lib.hid hsW
  clear hp hm hx hr hsW
  go_enter Try.func16, Try.ntmps16
  go_wp2_with fail
  clear hW0
  refine (Check_any _ 1 1 [⟨d, ps⟩] _ (one_came HP.out HM.out) rfl).mono ?_
  rintro e w1 ⟨rfl, hb1⟩
  rw [jrE_one]
  have HB1 := Lib.hid ((kbelow_box W0 (.cells #[.int .i64 d, .slice ax m cx] 29)).trans (hb1.mono (kbelow_box W0 _).size))
  clear hb1
  have hx := (HB1.out.block w.heap.size (by have := HSW.out; omega)).trans HHX.out
  have hr := (HB1.out.block (w.heap.size + 1) (by have := HSW.out; omega)).trans HHR.out
  have y0 : w1.cell? ⟨w.heap.size, 0, none⟩ = some (.int .i64 d) := by simp [World.cell?, hx]
  have y1 : w1.cell? ⟨w.heap.size, 1, none⟩ = some (.slice ax m cx) := by simp [World.cell?, hx]
  have r0 : w1.cell? ⟨w.heap.size + 1, 0, none⟩ = some (.int .i64 0) := by simp [World.cell?, hr]
  have r1 : w1.cell? ⟨w.heap.size + 1, 1, none⟩ = some (.slice none 0 0) := by simp [World.cell?, hr]
  have r2 : w1.frozen? ⟨w.heap.size + 1, 0, none⟩ = false := by simp [World.frozen?, hr]
  have r3 : w1.frozen? ⟨w.heap.size + 1, 1, none⟩ = false := by simp [World.frozen?, hr]
  clear x0 x1 hx hr
  by_cases h0 : enE ⟨d, ps⟩ = 0
  · have H0 := Lib.hid h0
    rw [h0]
    have H24 : Hid (m * 24 ≤ 140737488355328) := Lib.hid (by rw [← HM.out]; have h1 : ps.length ≤ 20 := (enE_ok h0).2.2.1; omega)
    clear h0
    go_wp2_with fail
    refine (copied_any _ _ _ _ ps _ (HP.out.below HB1.out) HM.out H24.out).mono ?_
    rintro e w3 ⟨x, c, rfl, hcl, hb3⟩
    have hm20 : m ≤ 20 := by rw [← HM.out]; exact (enE_ok H0.out).2.2.1
    have h2m : 2 ≤ m := by rw [← HM.out]; exact (enE_ok H0.out).2.1
    have hmo : ∀ i, -1000000000000 ≤ (anth ps i).mon ∧ (anth ps i).mon ≤ 1000000000000 := mon_bd (enE_ok H0.out).2.2.2.2.1
    rcases hcl with ⟨_, hz⟩ | ⟨g, cg, ev, hgB, hgl, hcl⟩
    · omega
    injection ev with ev _ ec
    subst ev
    subst ec
    have HT0 : Hid (Tur w3 g 0 ps 0) := ⟨hgl, fun i hi => by
      have q0 := hcl (i * 2) (by rw [← HM.out]; omega)
      have q1 := hcl (i * 2 + 1) (by rw [← HM.out]; omega)
      unfold cellA at q0 q1
      rw [if_pos (by omega), show i * 2 / 2 = i by omega] at q0
      rw [if_neg (by omega), show (i * 2 + 1) / 2 = i by omega] at q1
      rw [Nat.zero_add]
      exact ⟨q0.1, by rw [q1.1]; simp [ngM], q1.2⟩⟩
    have HGB := Lib.hid hgB
    have HGL := Lib.hid hgl
    have HMO := Lib.hid hmo
    have HB3 := Lib.hid hb3
    have HS1 : Hid (w.heap.size + 2 ≤ w1.heap.size) := Lib.hid (by rw [← HSW.out]; exact HB1.out.size)
    obtain ⟨G, hG⟩ : ∃ G, w3.heap.size = G := ⟨_, rfl⟩
    obtain ⟨W4, hW4⟩ : ∃ W4, w3.alloc (.cells #[.int .i64 d, .slice (some ⟨g, 0, none⟩) m c] 29) = W4 := ⟨_, rfl⟩
    have HT4 : Hid (Tur W4 g 0 ps 0) := by
      subst hW4
      refine ⟨by have := HT0.out.1; simp; omega, fun i hi => ?_⟩
      obtain ⟨q0, q1, q2⟩ := HT0.out.2 i hi
      exact ⟨(World.cell?_alloc_past (w := w3) _ _ _ hgl).trans q0, (World.cell?_alloc_past (w := w3) _ _ _ hgl).trans q1, (World.frozen?_alloc_past (w := w3) _ _ _ hgl).trans q2⟩
    have HB4 : Hid (Go.RowKit.Below w1.heap.size w1 W4) := by subst hW4; exact HB3.out.alloc HB3.out.size _
    have HX4 : Hid (W4.cell? ⟨G, 0, none⟩ = some (.int .i64 d) ∧ W4.cell? ⟨G, 1, none⟩ = some (.slice (some ⟨g, 0, none⟩) m c)) := by
      subst hW4
      subst hG
      exact ⟨World.cell?_alloc_at (w := w3) _ _ _ _ rfl, World.cell?_alloc_at (w := w3) _ _ _ _ rfl⟩
    have HGG : Hid (g < G) := by subst hG; exact hgl
    have z1 := HX4.out.2
    clear hcl hgB hgl hb3 HT0 hmo
    go_wp2_with fail
    clear hW4 z1
    go_loopw [19] (fun i wr => ∃ k : Nat, k ≤ m ∧ i = .int .i64 k ∧ Tur wr g 0 ps k ∧ Go.RowKit.Below w1.heap.size w1 wr ∧ wr.cell? ⟨G, 0, none⟩ = some (.int .i64 d) ∧ wr.cell? ⟨G, 1, none⟩ = some (.slice (some ⟨g, 0, none⟩) m c)) (fun i _ => m - (intOf i).toNat)
    case atStart => exact ⟨0, Nat.zero_le _, rfl, HT4.out, HB4.out, HX4.out⟩
    case round =>
      clear HT4 HB4 HX4
      obtain ⟨k, hk, rfl, ht, hb, z0, z1⟩ := hrel
      have HTU := Lib.hid ht
      have HB := Lib.hid hb
      clear hb
      by_cases hlt : k < m
      · have hlt' : (k : Int) < (m : Int) := by omega
        obtain ⟨-, q1, q2⟩ := ht.2 k (by rw [HM.out]; exact hlt)
        rw [Nat.zero_add] at q1 q2
        obtain ⟨mo, hmo⟩ : ∃ mo, (anth ps k).mon = mo := ⟨_, rfl⟩
        have hbd := HMO.out k
        rw [hmo] at hbd
        rw [show ngM ps k k = mo by simp [ngM, hmo]] at q1
        have HMK := Lib.hid hmo
        clear ht hmo
        go_wp2_with fail
        go_region
        go_wp2_with fail
        go_roundw
        case rel =>
          have hgk : g ≠ G := Nat.ne_of_lt HGG.out
          refine ⟨k + 1, by omega, by go_num, HTU.out.step (by rw [HM.out]; exact hlt) HMK.out, (HB.out.setCell (p := ⟨g, k * 2 + 1, none⟩) HGB.out (.int .i64 (-mo))).drew, ?_, ?_⟩
          · show (wr.setCell _ _).cell? _ = _
            rw [World.cell?_setCell_other (h := fun e => hgk (by injection e))]
            exact z0
          · show (wr.setCell _ _).cell? _ = _
            rw [World.cell?_setCell_other (h := fun e => hgk (by injection e))]
            exact z1
        case measure => simp [intOf]; omega
      · have hkm : k = ps.length := by have := HM.out; omega
        rw [hkm] at HTU
        clear ht
        have hr := (HB.out.block (w.heap.size + 1) (by have := HS1.out; omega)).trans ((HB1.out.block (w.heap.size + 1) (by have := HSW.out; omega)).trans HHR.out)
        have r0 : wr.cell? ⟨w.heap.size + 1, 0, none⟩ = some (.int .i64 0) := by simp [World.cell?, hr]
        have r1 : wr.cell? ⟨w.heap.size + 1, 1, none⟩ = some (.slice none 0 0) := by simp [World.cell?, hr]
        have r2 : wr.frozen? ⟨w.heap.size + 1, 0, none⟩ = false := by simp [World.frozen?, hr]
        have r3 : wr.frozen? ⟨w.heap.size + 1, 1, none⟩ = false := by simp [World.frozen?, hr]
        clear hr hkm
        go_wp2_with fail
        have q0 : ((wr.setCell ⟨w.heap.size + 1, 0, none⟩ (.int .i64 d)).setCell ⟨w.heap.size + 1, 1, none⟩ (.slice (some ⟨g, 0, none⟩) m c)).cell? ⟨w.heap.size + 1, 0, none⟩ = some (.int .i64 d) := by
          rw [World.cell?_setCell_other (h := fun e => by injection e; omega)]
          exact World.cell?_setCell_same _ _ _ r0
        have q1 : ((wr.setCell ⟨w.heap.size + 1, 0, none⟩ (.int .i64 d)).setCell ⟨w.heap.size + 1, 1, none⟩ (.slice (some ⟨g, 0, none⟩) m c)).cell? ⟨w.heap.size + 1, 1, none⟩ = some (.slice (some ⟨g, 0, none⟩) m c) :=
          World.cell?_setCell_same _ _ _ (by rw [World.cell?_setCell_other (h := fun e => by injection e; omega)]; exact r1)
        have hne : w.heap.size + 1 ≠ g := by have := HS1.out; have := HGB.out; omega
        have HPF := Lib.hid (((HTU.out.set (p := ⟨w.heap.size + 1, 0, none⟩) hne (.int .i64 d)).set (p := ⟨w.heap.size + 1, 1, none⟩) hne (.slice (some ⟨g, 0, none⟩) m c)).ps HP.out.2.1 HP.out.2.2)
        have HBF := Lib.hid ((((HB0.out.trans ((HB1.out.trans (HB.out.mono HB1.out.size)).mono HB0.out.size))).setCell (p := ⟨w.heap.size + 1, 0, none⟩) (show w.heap.size ≤ w.heap.size + 1 by omega) (.int .i64 d)).setCell (p := ⟨w.heap.size + 1, 1, none⟩) (show w.heap.size ≤ w.heap.size + 1 by omega) (.slice (some ⟨g, 0, none⟩) m c))
        generalize (wr.setCell ⟨w.heap.size + 1, 0, none⟩ (.int .i64 d)).setCell ⟨w.heap.size + 1, 1, none⟩ (.slice (some ⟨g, 0, none⟩) m c) = wf at *
        clear r0 r1 r2 r3
        refine bodyPost_ret (v := .tuple #[.agg #[.int .i64 d, .slice (some ⟨g, 0, none⟩) m c], .int .i64 0]) (by simp [results, Try.results16, go_sem, q0, q1]) rfl ⟨fun h => absurd H0.out h, fun _ => ⟨_, c, rfl, HPF.out⟩, HBF.out⟩
  · have h0' : (enE ⟨d, ps⟩ != 0) = true := by simp [h0]
    obtain ⟨cc, hcc⟩ : ∃ c, enE ⟨d, ps⟩ = c := ⟨_, rfl⟩
    have HCC := Lib.hid hcc
    rw [hcc] at h0 h0' ⊢
    have HZ := Lib.hid h0
    clear h0 hcc
    go_wp2_with fail
    have q0 : ((w1.setCell ⟨w.heap.size + 1, 0, none⟩ (.int .i64 0)).setCell ⟨w.heap.size + 1, 1, none⟩ (.slice none 0 0)).cell? ⟨w.heap.size + 1, 0, none⟩ = some (.int .i64 0) := by
      rw [World.cell?_setCell_other (h := fun e => by injection e; omega)]
      exact World.cell?_setCell_same _ _ _ r0
    have q1 : ((w1.setCell ⟨w.heap.size + 1, 0, none⟩ (.int .i64 0)).setCell ⟨w.heap.size + 1, 1, none⟩ (.slice none 0 0)).cell? ⟨w.heap.size + 1, 1, none⟩ = some (.slice none 0 0) :=
      World.cell?_setCell_same _ _ _ (by rw [World.cell?_setCell_other (h := fun e => by injection e; omega)]; exact r1)
    have HBF := Lib.hid (((HB0.out.trans (HB1.out.mono HB0.out.size)).setCell (p := ⟨w.heap.size + 1, 0, none⟩) (show w.heap.size ≤ w.heap.size + 1 by omega) (.int .i64 0)).setCell (p := ⟨w.heap.size + 1, 1, none⟩) (show w.heap.size ≤ w.heap.size + 1 by omega) (.slice none 0 0))
    generalize (w1.setCell ⟨w.heap.size + 1, 0, none⟩ (.int .i64 0)).setCell ⟨w.heap.size + 1, 1, none⟩ (.slice none 0 0) = wf at *
    clear r0 r1 r2 r3
    refine bodyPost_ret (v := .tuple #[.agg #[.int .i64 0, .slice none 0 0], .int .i64 cc]) (by simp [results, Try.results16, go_sem, q0, q1]) rfl ⟨fun _ => by rw [HCC.out], fun h => absurd h (by rw [HCC.out]; exact HZ.out), HBF.out⟩
end Go.Proofs.Ytdgcfakbmhchdaa
