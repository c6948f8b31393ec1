/-
  Promise O3: what becomes of an open run by actions: the walk of Play.
-/
import Derived.Test.YtfdhjdbefikjmaaGEq
import Derived.Test.YtfdhjdbefikjmaaGOpen
import Derived.Laws.MakeOwn
namespace Go.Proofs.Ytfdhjdbefikjmaa
open Go.RowKit

/-- The run behind the first k actions, and what is said of each. -/
def playR (l : List Ac) : Nat → Nat → Int
  | 0 => zeroR
  | k + 1 => stepR (playR l k) (acnth l k).act (acnth l k).who
def playE (l : List Ac) (k : Nat) : Int := stepE (playR l k) (acnth l k).act (acnth l k).who
theorem wf_done {R : Nat → Int} {a who : Int} (h : WfR R) (ha : (Lit.int .i64 a).wf = true) (hw : (Lit.int .i64 who).wf = true) : WfR (doneR R a who) := by
  intro j hj
  unfold doneR
  split
  · exact zero_wf j hj
  · show (Lit.int .i64 (if j = 0 then a else if (j : Int) = a + 1 then who else R j)).wf = true
    split
    · exact ha
    · split
      · exact hw
      · exact h j hj
theorem wf_step {R : Nat → Int} {a who : Int} (h : WfR R) (ha : (Lit.int .i64 a).wf = true) (hw : (Lit.int .i64 who).wf = true) : WfR (stepR R a who) := by
  unfold stepR
  split
  · split
    · exact wf_done h ha hw
    · exact h
  · exact zero_wf
theorem wf_play {l : List Ac} {n : Nat} (h : ∀ j, j < n → WfA (acnth l j)) : ∀ k, k ≤ n → WfR (playR l k)
  | 0, _ => zero_wf
  | k + 1, hk => wf_step (wf_play h k (by omega)) (h k (by omega)).1 (h k (by omega)).2
/-- What is said of the first k, the rest 0. -/
def saidL (l : List Ac) (n k : Nat) : List Int := (List.range n).map fun j => if j < k then playE l j else 0
theorem saidL_len (l : List Ac) (n k : Nat) : (saidL l n k).length = n := by rw [saidL, List.length_map, List.length_range]
theorem saidL_nth (l : List Ac) {n k j : Nat} (h : j < n) : nth (saidL l n k) j = if j < k then playE l j else 0 := by
  simp [saidL, nth, List.getD_eq_getElem?_getD, h]
theorem saidL_zero (l : List Ac) (n : Nat) : saidL l n 0 = List.replicate n 0 := by
  apply nth_ext
  · rw [saidL_len, List.length_replicate]
  · intro j hj
    rw [saidL_len] at hj
    rw [saidL_nth l hj, nth_replicate, if_neg (by omega)]
theorem saidL_set (l : List Ac) {n k : Nat} (h : k < n) : (saidL l n k).set k (playE l k) = saidL l n (k + 1) := by
  apply nth_ext
  · rw [List.length_set, saidL_len, saidL_len]
  · intro j hj
    rw [List.length_set, saidL_len] at hj
    rw [nth_set (by rw [saidL_len]; exact h), saidL_nth l hj, saidL_nth l hj]
    by_cases e : j = k
    · subst e; rw [if_pos rfl, if_pos (by omega)]
    · rw [if_neg e]
      by_cases h1 : j < k
      · rw [if_pos h1, if_pos (by omega)]
      · rw [if_neg h1, if_neg (by omega)]
theorem info_e : (Try.prog.info? 26).map (fun i => (i.zero, i.size, i.bytes)) = some (some (.int .i64 0), 1, 8) := by kernel_rfl
theorem make_errs (n : Nat) (h : n ≤ 17592186044416) (w : World) :
    (Instr.makeSlice 41 (.int .i64 (n : Int)) (.int .i64 (n : Int))).run Try.prog w = .ok (.slice (some ⟨w.heap.size, 0, none⟩) n n) (w.alloc (.cells (madeCells #[.int .i64 0] n) 26)) := by
  obtain ⟨i0, hi, hz0, hz1, hz2⟩ := info_parts info_e
  have h := run_make (P := Try.prog) w 41 26 i0 _ Try.underlying41 hi hz0 .i64 .i64 (n : Int) (n : Int) (by omega) (by omega) (by rw [hz2]; omega) (by omega)
  rw [hz1] at h
  simpa [Value.cells] using h
/-- What Play answers. -/
def PlayRet (w w' : World) (e : Ending) (l : List Ac) (n : Nat) : Prop := ∃ g, e = .returned (.tuple #[.agg #[.int .i64 ((playR l n) 0), .int .i64 ((playR l n) 1), .int .i64 ((playR l n) 2), .int .i64 ((playR l n) 3), .int .i64 ((playR l n) 4), .int .i64 ((playR l n) 5), .int .i64 ((playR l n) 6), .int .i64 ((playR l n) 7)], .slice (some ⟨g, 0, none⟩) n n]) ∧ Own w' g (saidL l n n) ∧ Below w.heap.size w w'
theorem Own.below {w w' : World} {b : Nat} {l : List Int} (h : Own w b l) (hb : Below w.heap.size w w') : Own w' b l := ⟨Nat.lt_of_lt_of_le h.1 hb.size, fun j hj => ⟨(hb.cell (p := ⟨b, j, none⟩) h.1).trans (h.2 j hj).1, (hb.frozen (p := ⟨b, j, none⟩) h.1).trans (h.2 j hj).2⟩⟩
theorem Own.other8 {w : World} {b b' : Nat} {l : List Int} (h : Own w b l) (hb : b ≠ b') (R : Nat → Int) : Own (((((((((w).setCell ⟨b', 0, none⟩ (.int .i64 (R 0))).setCell ⟨b', 1, none⟩ (.int .i64 (R 1))).setCell ⟨b', 2, none⟩ (.int .i64 (R 2))).setCell ⟨b', 3, none⟩ (.int .i64 (R 3))).setCell ⟨b', 4, none⟩ (.int .i64 (R 4))).setCell ⟨b', 5, none⟩ (.int .i64 (R 5))).setCell ⟨b', 6, none⟩ (.int .i64 (R 6))).setCell ⟨b', 7, none⟩ (.int .i64 (R 7))) b l :=
  (((((((h.other hb 0 _).other hb 1 _).other hb 2 _).other hb 3 _).other hb 4 _).other hb 5 _).other hb 6 _).other hb 7 _
theorem RFull.other8 {w : World} {b b' : Nat} {S : Nat → Int} (h : RFull w b S) (hb : b ≠ b') (R : Nat → Int) : RFull (((((((((w).setCell ⟨b', 0, none⟩ (.int .i64 (R 0))).setCell ⟨b', 1, none⟩ (.int .i64 (R 1))).setCell ⟨b', 2, none⟩ (.int .i64 (R 2))).setCell ⟨b', 3, none⟩ (.int .i64 (R 3))).setCell ⟨b', 4, none⟩ (.int .i64 (R 4))).setCell ⟨b', 5, none⟩ (.int .i64 (R 5))).setCell ⟨b', 6, none⟩ (.int .i64 (R 6))).setCell ⟨b', 7, none⟩ (.int .i64 (R 7))) b S :=
  (((((((h.other hb 0 _).other hb 1 _).other hb 2 _).other hb 3 _).other hb 4 _).other hb 5 _).other hb 6 _).other hb 7 _
/-- The three blocks of a play. -/
def PBx (w : World) (g : Nat) (R : Nat → Int) (L : List Int) : Prop := RFull w g zeroR ∧ RFull w (g + 1) R ∧ Own w (g + 1 + 1) L
theorem PBx.below {w w' : World} {g : Nat} {R : Nat → Int} {L : List Int} (h : PBx w g R L) (hb : Below w.heap.size w w') : PBx w' g R L := ⟨h.1.below hb, h.2.1.below hb, h.2.2.below hb⟩
theorem PBx.made (w : World) (n : Nat) : PBx (((w.alloc (.cells #[.int .i64 (zeroR 0), .int .i64 (zeroR 1), .int .i64 (zeroR 2), .int .i64 (zeroR 3), .int .i64 (zeroR 4), .int .i64 (zeroR 5), .int .i64 (zeroR 6), .int .i64 (zeroR 7)] 24)).alloc (.cells #[.int .i64 (zeroR 0), .int .i64 (zeroR 1), .int .i64 (zeroR 2), .int .i64 (zeroR 3), .int .i64 (zeroR 4), .int .i64 (zeroR 5), .int .i64 (zeroR 6), .int .i64 (zeroR 7)] 24)).alloc (.cells (madeCells #[.int .i64 0] n) 26)) w.heap.size zeroR (List.replicate n 0) := by
  have e1 : (w.alloc (.cells #[.int .i64 (zeroR 0), .int .i64 (zeroR 1), .int .i64 (zeroR 2), .int .i64 (zeroR 3), .int .i64 (zeroR 4), .int .i64 (zeroR 5), .int .i64 (zeroR 6), .int .i64 (zeroR 7)] 24)).heap.size = w.heap.size + 1 := by simp
  have e2 : ((w.alloc (.cells #[.int .i64 (zeroR 0), .int .i64 (zeroR 1), .int .i64 (zeroR 2), .int .i64 (zeroR 3), .int .i64 (zeroR 4), .int .i64 (zeroR 5), .int .i64 (zeroR 6), .int .i64 (zeroR 7)] 24)).alloc (.cells #[.int .i64 (zeroR 0), .int .i64 (zeroR 1), .int .i64 (zeroR 2), .int .i64 (zeroR 3), .int .i64 (zeroR 4), .int .i64 (zeroR 5), .int .i64 (zeroR 6), .int .i64 (zeroR 7)] 24)).heap.size = w.heap.size + 1 + 1 := by simp
  have h2 := RFull.made (w.alloc (.cells #[.int .i64 (zeroR 0), .int .i64 (zeroR 1), .int .i64 (zeroR 2), .int .i64 (zeroR 3), .int .i64 (zeroR 4), .int .i64 (zeroR 5), .int .i64 (zeroR 6), .int .i64 (zeroR 7)] 24)) zeroR 24
  rw [e1] at h2
  have h3 := Own.made ((w.alloc (.cells #[.int .i64 (zeroR 0), .int .i64 (zeroR 1), .int .i64 (zeroR 2), .int .i64 (zeroR 3), .int .i64 (zeroR 4), .int .i64 (zeroR 5), .int .i64 (zeroR 6), .int .i64 (zeroR 7)] 24)).alloc (.cells #[.int .i64 (zeroR 0), .int .i64 (zeroR 1), .int .i64 (zeroR 2), .int .i64 (zeroR 3), .int .i64 (zeroR 4), .int .i64 (zeroR 5), .int .i64 (zeroR 6), .int .i64 (zeroR 7)] 24)) n 26
  rw [e2] at h3
  exact ⟨((RFull.made w zeroR _).below (gbelow_box _ _)).below (gbelow_box _ _), h2.below (gbelow_box _ _), h3⟩
set_option maxRecDepth 100000 in
set_option maxHeartbeats 2000000 in
theorem Play_any (a : Option Addr) (n cap : Nat) (l : List Ac) (w : World) (hc : CameAc w a l) (hn : l.length = n) (hm : n * 16 ≤ 140737488351232) (hwf : ∀ j, j < n → WfA (acnth l j)) :
    Calls Try.prog 17 #[.slice a n cap] w fun e w' => PlayRet w w' e l n := by
  have HO := Lib.hid (fun h0 => hc.open hn h0)
  have HWF := Lib.hid hwf
  have hmk := make_errs n (by omega)
  have HX0 := Lib.hid (PBx.made w n)
  have HB0 := Lib.hid (((gbelow_box w (.cells #[.int .i64 (zeroR 0), .int .i64 (zeroR 1), .int .i64 (zeroR 2), .int .i64 (zeroR 3), .int .i64 (zeroR 4), .int .i64 (zeroR 5), .int .i64 (zeroR 6), .int .i64 (zeroR 7)] 24)).alloc (by simp) (.cells #[.int .i64 (zeroR 0), .int .i64 (zeroR 1), .int .i64 (zeroR 2), .int .i64 (zeroR 3), .int .i64 (zeroR 4), .int .i64 (zeroR 5), .int .i64 (zeroR 6), .int .i64 (zeroR 7)] 24)).alloc (by simp; omega) (.cells (madeCells #[.int .i64 0] n) 26))
  rw [← saidL_zero l n] at HX0
  clear hc hwf hn
  go_enter Try.func17, Try.ntmps17
  go_wp2_with fail
  go_loopw [13] (fun i wr => ∃ k : Nat, k ≤ n ∧ i = .int .i64 k ∧ PBx wr w.heap.size (playR l k) (saidL l n k) ∧ Below w.heap.size w wr) (fun i _ => n - (intOf i).toNat)
  case atStart => exact ⟨0, Nat.zero_le _, rfl, HX0.out, HB0.out⟩
  case round =>
    clear hmk HX0 HB0
    obtain ⟨k, hk, rfl, hx, hb⟩ := hrel
    have HX := Lib.hid hx
    have HB := Lib.hid hb
    clear hx hb
    by_cases hlt : k < n
    · have hlt' : (k : Int) < (n : Int) := by omega
      obtain ⟨b, off, rfl, hbl, hcell⟩ := HO.out (by omega)
      obtain ⟨x0, x1⟩ := hcell wr HB.out k hlt
      clear hcell
      obtain ⟨wa, ww⟩ := HWF.out k hlt
      have HWR := Lib.hid (wf_play HWF.out k (by omega))
      have HK := Lib.hid (fun w => Step_any (playR l k) (acnth l k).act (acnth l k).who w HWR.out)
      have HS1 : Hid (stepR (playR l k) (acnth l k).act (acnth l k).who = playR l (k + 1)) := rfl
      have HS2 : Hid (stepE (playR l k) (acnth l k).act (acnth l k).who = playE l k) := rfl
      rw [HS1.out, HS2.out] at HK
      have HL := Lib.hid (saidL_set l hlt)
      have HLN := Lib.hid (saidL_len l n k)
      clear HS1 HS2
      generalize hS : playR l (k + 1) = S at *
      have HSS := Lib.hid hS
      clear hS
      generalize playE l k = er at *
      generalize playR l k = R at *
      generalize (acnth l k).act = ac at *
      generalize (acnth l k).who = wh at *
      have HXB := Lib.hid (HX.out.below (gbelow_box wr (.cells #[.int .i64 ac, .int .i64 wh] 30)))
      have HBB := Lib.hid (HB.out.alloc HB.out.size (.cells #[.int .i64 ac, .int .i64 wh] 30))
      obtain ⟨c0, c1, c2, c3, c4, c5, c6, c7⟩ := HXB.out.2.1.box.cells
      go_wp2_with fail
      clear c0 c1 c2 c3 c4 c5 c6 c7 x0 x1
      refine (HK.out _).mono ?_
      rintro e w2 ⟨rfl, hb2⟩
      have HX2 := Lib.hid (HXB.out.below hb2)
      have HB2 := Lib.hid (HBB.out.trans (hb2.mono HBB.out.size))
      clear hb2 HX HXB HB HBB HK
      obtain ⟨hz, hr, ho⟩ := HX2.out
      obtain ⟨c0, c1, c2, c3, c4, c5, c6, c7⟩ := hr.box.cells
      obtain ⟨f0, f1, f2, f3, f4, f5, f6, f7⟩ := hr.free
      have HO8 := Lib.hid (ho.other8 (b' := w.heap.size + 1) (by omega) S)
      have o1 := HO8.out.cell (j := k) (by rw [HLN.out]; exact hlt)
      have o2 := HO8.out.free (j := k) (by rw [HLN.out]; exact hlt)
      have HZ8 := Lib.hid (hz.other8 (b' := w.heap.size + 1) (by omega) S)
      have HR8 := Lib.hid (hr.set8 S)
      have HB8 := Lib.hid (below_set8 HB2.out (b := w.heap.size + 1) (by omega) S)
      clear hz hr ho
      go_wp2_with fail
      go_roundw
      case rel =>
        refine ⟨k + 1, by omega, by go_num, ⟨HZ8.out.other (by omega) _ _, ?_, ?_⟩, HB8.out.setCell (p := ⟨w.heap.size + 1 + 1, k, none⟩) (by simp only []; omega) _⟩
        · rw [HSS.out]
          exact HR8.out.other (by omega) _ _
        · rw [← HL.out]
          exact HO8.out.set (by rw [HLN.out]; exact hlt) er
      case measure => simp [intOf]; omega
    · obtain rfl : n = k := by omega
      obtain ⟨hz, hr, ho⟩ := HX.out
      generalize hR : playR l n = R at *
      have HRR := Lib.hid hR
      clear hR
      obtain ⟨c0, c1, c2, c3, c4, c5, c6, c7⟩ := hr.box.cells
      obtain ⟨z0, z1, z2, z3, z4, z5, z6, z7⟩ := hz.box.cells
      obtain ⟨f0, f1, f2, f3, f4, f5, f6, f7⟩ := hz.free
      obtain ⟨q0, q1, q2, q3, q4, q5, q6, q7⟩ := (hz.set8 R).box.cells
      have HO8 := Lib.hid (ho.other8 (b' := w.heap.size) (by omega) R)
      have HB8 := Lib.hid (below_set8 HB.out (b := w.heap.size) (Nat.le_refl _) R)
      clear hz hr ho
      go_wp2_with fail
      refine bodyPost_ret (v := .tuple #[.agg #[.int .i64 (R 0), .int .i64 (R 1), .int .i64 (R 2), .int .i64 (R 3), .int .i64 (R 4), .int .i64 (R 5), .int .i64 (R 6), .int .i64 (R 7)], .slice (some ⟨w.heap.size + 1 + 1, 0, none⟩) n n]) (by simp [results, Try.results17, go_sem, q0, q1, q2, q3, q4, q5, q6, q7]) rfl ?_
      exact ⟨_, by rw [HRR.out], HO8.out, HB8.out⟩
end Go.Proofs.Ytfdhjdbefikjmaa
