/-
  Promise U2: the walks of read and Parse.
-/
import Derived.Test.YtmchanddfodhaaaDoorShCut
import Derived.Shelf.Vars
import Derived.BigQuiet
namespace Go.Proofs.YtmchanddfodhaaaDoor
open Go.RowKit Mny

/-- What the library's search asks of its variable: it holds a number. -/
def MaxL (w : World) : Prop := ∃ m, w.cell? ⟨0, 0, none⟩ = some (.int .i64 m)
theorem MaxL.below {w w' : World} (h : MaxL w) (hb : Below w.heap.size w w') : MaxL w' := by
  obtain ⟨m, hm⟩ := h
  exact ⟨m, (hb.cell (p := ⟨0, 0, none⟩) (oblt_of_cell hm)).trans hm⟩
theorem maxL_of {w : World} (h : w.ShapedOpen Tryd.prog) : MaxL w :=
  Go.Proofs.cell_of_shapedOpen_int (zero := #[.int .i64 0]) (t := 3) h (of_decide_eq_true (by kernel_rfl)) (by kernel_rfl) rfl (by kernel_rfl) (by kernel_rfl) Tryd.underlying3
/-- The parts of a text in the block g. -/
def PartsAt (w : World) (g : Nat) (s : ByteArray) : Prop := g < w.heap.size ∧ ∀ j, j < cntF s + 1 → w.cell? ⟨g, j, none⟩ = some (.string (part s j))
theorem PartsAt.below {B : Nat} {w w' : World} {g : Nat} {s : ByteArray} (h : PartsAt w g s) (hb : Below B w w') (hB : g < B) : PartsAt w' g s :=
  ⟨Nat.lt_of_lt_of_le h.1 hb.size, fun j hj => (hb.cell (p := ⟨g, j, none⟩) hB).trans (h.2 j hj)⟩
theorem split_any (s : ByteArray) (w : World) (hM : MaxL w) (hs : s.size ≤ 1891) :
    Calls Tryd.prog 45 #[.string s, .string ⟨#[10]⟩] w fun e w' => e = .returned (.slice (some ⟨w.heap.size, 0, none⟩) (cntF s + 1) (cntF s + 1)) ∧ PartsAt w' w.heap.size s ∧ w'.heap.size = w.heap.size + 1 ∧ Below w.heap.size w w' := by
  obtain ⟨m, hm⟩ := hM
  refine (sh_strings_Split s ⟨#[10]⟩ m w (by omega) hm (by decide)).mono ?_
  rintro e w' ⟨he, rfl⟩
  refine ⟨he, ⟨by simp, fun j hj => ?_⟩, by simp, kbelow_box _ _⟩
  rw [World.cell?_alloc_at (w := w) _ _ _ _ rfl]
  have hl := parts_len s
  have h1 : j < (parts s).length := by omega
  show (((parts s).map Value.string).toArray[j]?) = _
  have e2 : part s j = (parts s)[j] := by
    unfold part
    rw [List.getD_eq_getElem?_getD, List.getElem?_eq_getElem h1]
    rfl
  rw [e2]
  simp [h1]
theorem cut_any (t : ByteArray) (w : World) (hM : MaxL w) (hs : t.size ≤ 1891) :
    Calls Tryd.prog 46 #[.string t, .string ⟨#[46]⟩] w fun e w' => (∃ b, e = .returned (.tuple #[.string (nameP t), .string (restP t), .bool b])) ∧ Below w.heap.size w w' := by
  obtain ⟨m, hm⟩ := hM
  refine (sh_strings_Cut t ⟨#[46]⟩ m w (by omega) hm).mono ?_
  rintro e w' ⟨he, k, rfl⟩
  exact ⟨⟨_, he⟩, kbelow_dN (Below.refl _ _) k⟩
theorem trim_any (t : ByteArray) (w : World) : Calls Tryd.prog 48 #[.string t, .string ⟨#[46]⟩] w fun e w' => e = .returned (.string (trimP t)) ∧ w' = w :=
  sh_strings_TrimLeft_one t 46 (by decide) w
def ReadIs (s : ByteArray) (w : World) (e : Ending) (w' : World) : Prop := ∃ x c, e = .returned (.tuple #[.slice x (rdL s).length c, .int .i64 (rdW s)]) ∧ CameA w' x (rdL s) ∧ (∀ b off, x = some ⟨b, off, none⟩ → w.heap.size ≤ b) ∧ Below w.heap.size w w'
theorem rdL_big {s : ByteArray} (h : 1891 < s.size) : rdL s = [] ∧ rdW s = 0 := by
  unfold rdL rdW
  rw [if_pos h, if_pos h]
  exact ⟨rfl, rfl⟩
theorem rdL_small {s : ByteArray} (h : ¬ 1891 < s.size) : rdL s = readK s (cntF s - 1) ∧ rdW s = ((part s 0).size : Int) := by
  unfold rdL rdW
  rw [if_neg h, if_neg h]
  exact ⟨rfl, rfl⟩
set_option maxRecDepth 100000 in
set_option maxHeartbeats 4000000 in
theorem read_sheet (s : ByteArray) (w : World) (hM : MaxL w) : Calls Tryd.prog 27 #[.string s] w fun e w' => ReadIs s w e w' := by
  have HM := Lib.hid hM
  clear hM
  by_cases hbig : 1891 < s.size
  · obtain ⟨h1, h2⟩ := rdL_big hbig
    have hbI : (1891 : Int) < (s.size : Int) := by omega
    have HP : Hid (ReadIs s w (.returned (.tuple #[.slice none 0 0, .int .i64 0])) w) := ⟨none, 0, by rw [h1, h2]; rfl, by rw [h1]; exact .inl rfl, (fun _ _ h => (by cases h)), Below.refl _ _⟩
    clear h1 h2 hbig
    go_enter Tryd.func27, Tryd.ntmps27
    go_wp2_with fail
    go_ret2
    exact HP.out
  · obtain ⟨h1, h2⟩ := rdL_small hbig
    have HR1 := Lib.hid h1
    have HR2 := Lib.hid h2
    have hbI : ¬ ((1891 : Int) < (s.size : Int)) := by omega
    have hsz : s.size ≤ 1891 := by omega
    have hcl := cntF_le s
    obtain ⟨m, hm⟩ : ∃ m, cntF s - 1 = m := ⟨_, rfl⟩
    rw [hm] at HR1
    have HRL : Hid ((readK s m).length = m) := readK_len s m
    have HPS := Lib.hid (part_small s)
    have HSP := Lib.hid (split_any s w HM.out hsz)
    have hmx : max 0 ((cntF s : Int) + 1 - 2) = (m : Int) := by omega
    have hmx2 : max 0 ((cntF s : Int) - 1) = (m : Int) := by omega
    have hmc : (m : Int) ≤ (cntF s : Int) + 1 := by omega
    have hmc2 : m ≤ cntF s + 1 := by omega
    have HMC := Lib.hid hmc2
    have HCF : Hid (cntF s ≤ 1891) := by unfold Hid; omega
    have HM1 : Hid (m ≤ 1891) := by unfold Hid; omega
    clear h1 h2 hbig hm hcl
    go_enter Tryd.func27, Tryd.ntmps27
    go_wp2_with fail
    refine HSP.out.mono ?_
    rintro e w1 ⟨rfl, hpa, hs1, hb1⟩
    have HPA := Lib.hid hpa
    have HB1 := Lib.hid hb1
    have HS1 := Lib.hid hs1
    have hcf := HCF.out
    clear hpa hb1 hs1
    generalize hc : cntF s = c at *
    have HC := Lib.hid hc
    clear hc
    go_wp2_with fail
    have HSW := Lib.hid (HPA.out)
    clear hmx hmx2 hmc HSP
    go_loopw [6, 27] (fun v i wr => ∃ k : Nat, k ≤ m ∧ i = .int .i64 k ∧ GrowA wr w1.heap.size v (readK s k) ∧ Below w1.heap.size w1 wr) (fun _ i _ => m - (intOf i).toNat)
    case atStart => exact ⟨0, Nat.zero_le _, rfl, GrowA.nil _ _, Below.refl _ _⟩
    case round =>
      obtain ⟨k, hk, rfl, hg, hb⟩ := hrel
      have HG := Lib.hid hg
      have HB := Lib.hid hb
      have HPW := Lib.hid (HPA.out.below HB.out (by rw [HS1.out]; omega))
      clear hg hb
      by_cases hlt : k < m
      · have hltI : (k : Int) < (m : Int) := by omega
        have x0 := HPW.out.2 k (by rw [HC.out]; omega)
        have HPK := Lib.hid (HPS.out k)
        have HMW := Lib.hid ((HM.out.below HB1.out).below HB.out)
        have HRK : Hid (readK s (k + 1) = readK s k ++ [readOne (part s k)]) := rfl
        have HRL2 := Lib.hid (readK_len s k)
        generalize part s k = tk at *
        have HN1 := Lib.hid (nameP_small tk)
        have HN2 := Lib.hid (restP_small tk)
        have HN3 := Lib.hid (trimP_small (restP tk))
        have HRO : Hid (readOne tk = ⟨nameP tk, rmN (trimP (restP tk))⟩) := rfl
        generalize readOne tk = rk at *
        go_wp2_with fail
        refine (cut_any tk _ HMW.out (by have := HPK.out; omega)).mono ?_
        rintro e w2 ⟨⟨bc, rfl⟩, hb2⟩
        have HG2 := Lib.hid (HG.out.below hb2)
        have HB2 := Lib.hid (HB.out.trans (hb2.mono HB.out.size))
        clear hb2 HG HB HPW x0
        go_wp2_with (first | (go_at_call 48; refine (trim_any _ _).mono ?_; rintro e w' ⟨rfl, h'⟩; subst w'))
        refine (read_any (trimP (restP tk)) _ (by have h1 := HN3.out; have h2 := HN2.out; have h3 := HPK.out; omega)).mono ?_
        rintro e w3 ⟨rfl, hb3⟩
        have HG3 := Lib.hid (HG2.out.below hb3)
        have HB3 := Lib.hid (HB2.out.trans (hb3.mono HB2.out.size))
        clear hb3 HG2 HB2
        generalize nameP tk = nm at *
        generalize rmN (trimP (restP tk)) = mo at *
        generalize rmE (trimP (restP tk)) = er at *
        generalize rmA (trimP (restP tk)) = ea at *
        have HBX1 := Lib.hid (kbelow_box w3 (.cells #[.int .i64 er, .int .i64 ea] 30))
        have HG4 := Lib.hid (HG3.out.below HBX1.out)
        have HB4 := Lib.hid (HB3.out.trans (HBX1.out.mono HB3.out.size))
        have HSX : Hid ((w3.alloc (.cells #[.int .i64 er, .int .i64 ea] 30)).heap.size = w3.heap.size + 1) := by unfold Hid; simp
        have HBX2 := Lib.hid (kbelow_box (w3.alloc (.cells #[.int .i64 er, .int .i64 ea] 30)) (.cells #[.string nm, .int .i64 mo] 45))
        have HG5 := Lib.hid (HG4.out.below HBX2.out)
        have HB5 := Lib.hid (HB4.out.trans (HBX2.out.mono HB4.out.size))
        have HAT : Hid (AAt ((w3.alloc (.cells #[.int .i64 er, .int .i64 ea] 30)).alloc (.cells #[.string nm, .int .i64 mo] 45)) (w3.heap.size + 1) 0 [⟨nm, mo⟩]) := by
          have h1 := ABox.made (w3.alloc (.cells #[.int .i64 er, .int .i64 ea] 30)) nm mo
          rw [HSX.out] at h1
          refine ⟨h1.lt, fun j hj => ?_⟩
          obtain rfl : j = 0 := by simpa using hj
          exact h1.cells
        have hm1 := HM1.out
        clear HBX1 HBX2 HG4 HG3 HB4 HB3
        go_wp2_with (first
          | (at_builtin; refine wpList_app_ams _ rfl _ _ rfl w1.heap.size _ (readK s k) rfl HG5.out (w3.heap.size + 1) 0 1 1 [⟨nm, mo⟩] rfl HAT.out rfl (by rw [HRL2.out]; omega) HB5.out.size ?_
             rintro v6 w6 hg6 hgr6 hb6
             rw [← HRO.out, ← HRK.out] at hg6
             have HG6 := Lib.hid hg6
             have HB6 := Lib.hid (HB5.out.trans hb6)
             clear hg6 hgr6 hb6))
        go_roundw
        case rel => exact ⟨k + 1, by omega, by go_num, HG6.out, HB6.out⟩
        case measure => simp [intOf]; omega
      · obtain rfl : m = k := by omega
        obtain ⟨xa, ca, rfl, hca⟩ := HG.out.slice
        have HCA := Lib.hid hca
        have HXB : Hid (∀ b off, xa = some ⟨b, off, none⟩ → w.heap.size ≤ b) := fun b off e => by
          subst e
          have := (GrowA.lt HG.out b rfl).1
          rw [HS1.out] at this
          omega
        have x0 := HPW.out.2 0 (by omega)
        have HFIN : Hid (∀ q, ReadIs s w (.returned (.tuple #[.slice xa (readK s m).length ca, .int .i64 ((part s 0).size : Int)])) (wr.drewN q)) := fun q => ⟨xa, ca, by rw [HR1.out, HR2.out], by rw [HR1.out]; exact HCA.out, HXB.out, kbelow_dN (HB1.out.trans (HB.out.mono HB1.out.size)) q⟩
        generalize (readK s m).length = lm at *
        generalize part s 0 = t0 at *
        clear hca
        have hc0 : (0 : Int) < (c : Int) + 1 := by omega
        go_wp2_with fail
        go_quiet (fail)
        go_wp2_with fail
        go_ret2
        exact HFIN.out _
/-- A box of two cells. -/
def OB (w : World) (g : Nat) (x y : Value) : Prop := (w.cell? ⟨g, 0, none⟩ = some x ∧ w.frozen? ⟨g, 0, none⟩ = false) ∧ w.cell? ⟨g, 1, none⟩ = some y ∧ w.frozen? ⟨g, 1, none⟩ = false
theorem OB.below {w w' : World} {B g : Nat} {x y : Value} (h : OB w g x y) (hb : Below B w w') (hg : g < B) : OB w' g x y :=
  ⟨⟨(hb.cell (p := ⟨g, 0, none⟩) hg).trans h.1.1, (hb.frozen (p := ⟨g, 0, none⟩) hg).trans h.1.2⟩, (hb.cell (p := ⟨g, 1, none⟩) hg).trans h.2.1, (hb.frozen (p := ⟨g, 1, none⟩) hg).trans h.2.2⟩
theorem OB.set {w : World} {g : Nat} {x y : Value} (h : OB w g x y) (u v : Value) : OB ((w.setCell ⟨g, 0, none⟩ u).setCell ⟨g, 1, none⟩ v) g u v := by
  obtain ⟨⟨h1, h2⟩, h3, h4⟩ := h
  refine ⟨⟨?_, by rw [World.frozen?_setCell, World.frozen?_setCell]; exact h2⟩, ?_, by rw [World.frozen?_setCell, World.frozen?_setCell]; exact h4⟩
  · rw [World.cell?_setCell_other (h := fun e => by injection e; omega)]
    exact World.cell?_setCell_same _ _ _ h1
  · refine World.cell?_setCell_same _ _ _ (u := y) ?_
    rw [World.cell?_setCell_other (h := fun e => by injection e; omega)]
    exact h3
theorem OB.made (w : World) (x y : Value) (T : TypeId) : OB (w.alloc (.cells #[x, y] T)) w.heap.size x y := by
  have h := (MapKept.heap_alloc w (.cells #[x, y] T)).1
  generalize w.alloc (.cells #[x, y] T) = W at *
  refine ⟨⟨?_, ?_⟩, ?_, ?_⟩ <;> simp [World.cell?, World.frozen?, h]
def ParseIs (s : ByteArray) (w : World) (e : Ending) (w' : World) : Prop := Below w.heap.size w w' ∧ ((psB s = true ∧ ∃ x c, e = .returned (.tuple #[.slice x (rdL s).length c, .int .i64 (rdW s), .agg #[.int .i64 0, .int .i64 0]]) ∧ CameA w' x (rdL s)) ∨ (psB s = false ∧ e = .returned (.tuple #[.slice none 0 0, .int .i64 0, .agg #[.int .i64 1, .int .i64 0]])))
theorem psB_parts (s : ByteArray) : (shE (rdL s) (rdL s).length (rdW s) ≠ 0 ∧ psB s = false) ∨ (shE (rdL s) (rdL s).length (rdW s) = 0 ∧ ((shT (rdL s) (rdL s).length (rdW s)).toList == s.toList) = psB s) := by
  by_cases h : shE (rdL s) (rdL s).length (rdW s) = 0
  · refine .inr ⟨h, ?_⟩
    rw [eqS]
    unfold psB
    rw [h]
    simp
  · refine .inl ⟨h, ?_⟩
    unfold psB
    rw [decide_eq_false h]
    rfl
set_option maxRecDepth 100000 in
set_option maxHeartbeats 2000000 in
theorem Parse_any (s : ByteArray) (w : World) (ht : Tab w) (hM : MaxL w) : Calls Tryd.prog 12 #[.string s] w fun e w' => ParseIs s w e w' := by
  have HT := Lib.hid ht
  have HM := Lib.hid hM
  clear ht hM
  have HBX := Lib.hid (kbelow_box w (.cells #[.int .i64 0, .int .i64 0] 30))
  have HO := Lib.hid (OB.made w (.int .i64 0) (.int .i64 0) 30)
  have HSZ : Hid ((w.alloc (.cells #[.int .i64 0, .int .i64 0] 30)).heap.size = w.heap.size + 1) := by unfold Hid; simp
  have HPR := Lib.hid (fun x c w ht hc => Print_any x (rdL s).length c (rdL s) (rdW s) w ht hc (rdL_fit s) rfl (by have := rdL_len s; omega))
  have HRD := Lib.hid (read_sheet s _ (HM.out.below HBX.out))
  go_enter Tryd.func12, Tryd.ntmps12
  go_wp2_with fail
  refine HRD.out.mono ?_
  rintro e w1 ⟨xa, ca, rfl, hca, hxa, hb1⟩
  rw [HSZ.out] at hxa
  have HXA := Lib.hid hxa
  clear hxa
  have HCA := Lib.hid hca
  have HB1 := Lib.hid (HBX.out.trans (hb1.mono HBX.out.size))
  have HO1 := Lib.hid (HO.out.below hb1 (by rw [HSZ.out]; omega))
  have hsz1 : w.heap.size < w1.heap.size := by have := hb1.size; rw [HSZ.out] at this; omega
  have HS1 := Lib.hid hsz1
  have HT1 := Lib.hid (HT.out.below HB1.out)
  clear hca hb1 hsz1
  go_wp2_with fail
  refine (HPR.out xa ca _ HT1.out HCA.out).mono ?_
  rintro e w2 ⟨rfl, hb2⟩
  have HCA2 := Lib.hid (HCA.out.below hb2)
  have HB2 := Lib.hid (HB1.out.trans (hb2.mono HB1.out.size))
  have HO2 := Lib.hid (HO1.out.below hb2 HS1.out)
  have HS2 : Hid (w.heap.size < w2.heap.size) := by have h1 := HS1.out; have h2 := hb2.size; unfold Hid; omega
  clear hb2 HPR HRD
  have HF : Hid (∀ u v, Below w.heap.size w ((w2.setCell ⟨w.heap.size, 0, none⟩ u).setCell ⟨w.heap.size, 1, none⟩ v)) := fun u v => (HB2.out.setCell (p := ⟨w.heap.size, 0, none⟩) (Nat.le_refl _) u).setCell (p := ⟨w.heap.size, 1, none⟩) (Nat.le_refl _) v
  have HCS : Hid (∀ u v, CameA ((w2.setCell ⟨w.heap.size, 0, none⟩ u).setCell ⟨w.heap.size, 1, none⟩ v) xa (rdL s)) := fun u v => by
    rcases HCA2.out with h | ⟨b, off, e, h⟩
    · exact .inl h
    · by_cases hbw : b = w.heap.size
      · have := HXA.out b off e
        omega
      · refine .inr ⟨b, off, e, by simpa using h.1, fun j hj => ?_⟩
        obtain ⟨q0, q1⟩ := h.2 j hj
        have oth : ∀ o, ((w2.setCell ⟨w.heap.size, 0, none⟩ u).setCell ⟨w.heap.size, 1, none⟩ v).cell? ⟨b, o, none⟩ = w2.cell? ⟨b, o, none⟩ := fun o => by
          rw [World.cell?_setCell_other (h := fun e => by injection e; omega), World.cell?_setCell_other (h := fun e => by injection e; omega)]
        exact ⟨(oth _).trans q0, (oth _).trans q1⟩
  obtain ⟨⟨x0, z0⟩, x1, z1⟩ := HO2.out
  have HPB := Lib.hid (psB_parts s)
  generalize shT (rdL s) (rdL s).length (rdW s) = ST at *
  generalize shE (rdL s) (rdL s).length (rdW s) = SE at *
  generalize hpb : psB s = pb at *
  have HQ := Lib.hid hpb
  clear hpb
  rcases HPB.out with ⟨h1, h2⟩ | ⟨h1, h2⟩
  · have hB : (SE != 0) = true := by simpa using h1
    subst h2
    clear h1
    go_wp2_with fail
    have HOB := HO2.out.set (.int .i64 1) (.int .i64 0)
    have q0 := HOB.1.1
    have q1 := HOB.2.1
    have HB3 := HF.out (.int .i64 1) (.int .i64 0)
    clear HOB x0 x1 z0 z1
    generalize (w2.setCell ⟨w.heap.size, 0, none⟩ (.int .i64 1)).setCell ⟨w.heap.size, 1, none⟩ (.int .i64 0) = wf at *
    have HPOST : Hid (ParseIs s w (.returned (.tuple #[.slice none 0 0, .int .i64 0, .agg #[.int .i64 1, .int .i64 0]])) wf) := ⟨HB3, .inr ⟨HQ.out, rfl⟩⟩
    exact bodyPost_ret (v := .tuple #[.slice none 0 0, .int .i64 0, .agg #[.int .i64 1, .int .i64 0]]) (by simp [results, Tryd.results12, go_sem, q0, q1]) rfl HPOST.out
  · subst h1
    cases pb
    · go_wp2_with fail
      have HOB := HO2.out.set (.int .i64 1) (.int .i64 0)
      have q0 := HOB.1.1
      have q1 := HOB.2.1
      have HB3 := HF.out (.int .i64 1) (.int .i64 0)
      clear HOB x0 x1 z0 z1
      generalize (w2.setCell ⟨w.heap.size, 0, none⟩ (.int .i64 1)).setCell ⟨w.heap.size, 1, none⟩ (.int .i64 0) = wf at *
      have HPOST : Hid (ParseIs s w (.returned (.tuple #[.slice none 0 0, .int .i64 0, .agg #[.int .i64 1, .int .i64 0]])) wf) := ⟨HB3, .inr ⟨HQ.out, rfl⟩⟩
      exact bodyPost_ret (v := .tuple #[.slice none 0 0, .int .i64 0, .agg #[.int .i64 1, .int .i64 0]]) (by simp [results, Tryd.results12, go_sem, q0, q1]) rfl HPOST.out
    · generalize hlr : (rdL s).length = lr at *
      generalize hxr : rdW s = xr at *
      have HLR := Lib.hid hlr
      have HXR := Lib.hid hxr
      clear hlr hxr
      go_wp2_with fail
      have HOB := HO2.out.set (.int .i64 0) (.int .i64 0)
      have q0 := HOB.1.1
      have q1 := HOB.2.1
      have HB3 := HF.out (.int .i64 0) (.int .i64 0)
      have HC3 := HCS.out (.int .i64 0) (.int .i64 0)
      clear HOB x0 x1 z0 z1
      generalize (w2.setCell ⟨w.heap.size, 0, none⟩ (.int .i64 0)).setCell ⟨w.heap.size, 1, none⟩ (.int .i64 0) = wf at *
      have HPOST : Hid (ParseIs s w (.returned (.tuple #[.slice xa lr ca, .int .i64 xr, .agg #[.int .i64 0, .int .i64 0]])) wf) := ⟨HB3, .inl ⟨HQ.out, xa, ca, by rw [HLR.out, HXR.out], HC3⟩⟩
      exact bodyPost_ret (v := .tuple #[.slice xa lr ca, .int .i64 xr, .agg #[.int .i64 0, .int .i64 0]]) (by simp [results, Tryd.results12, go_sem, q0, q1]) rfl HPOST.out
end Go.Proofs.YtmchanddfodhaaaDoor
