/-
  Promise H2: which line is wrong first: the walk of Lines.
-/
import Derived.Test.YtoingnhiipfnlaaDoorNMeant
import Derived.Test.YtoingnhiipfnlaaDoorNKnows
import Derived.Test.YtoingnhiipfnlaaDoorXChk
namespace Go.Proofs.YtoingnhiipfnlaaDoor
open Go.RowKit Go.Maps Go.WideMaps

/-- What the names of values mean when k lines are past: the lines ahead, else the inputs. -/
def valsK (l : List Ln) (k : Kn) (j : Nat) (s : ByteArray) : Option Nat := match lastN (fun j => (lnth l j).name) j s with | some v => some v | none => lastN (fun j => (anth k.ins j).name) k.ins.length s
def linesG (l : List Ln) : ByteArray → Option Nat := lastN (fun j => (lnth l j).name) l.length
def tabsG (k : Kn) : ByteArray → Option Nat := lastN (fun j => (tnth k.tbs j).name) k.tbs.length
/-- Is a line right where it stands? -/
def lineOk (l : List Ln) (k : Kn) (j : Nat) : Int := if (valsK l k j (lnth l j).name).isSome = true then 6 else if (lnth l j).ex.all (knowB (valsK l k j) (linesG l) (tabsG k)) = true then 0 else 5
/-- Which line is wrong first, and how. -/
def BindIs (l : List Ln) (k : Kn) (i e : Int) : Prop :=
  (linesE l ≠ 0 ∧ i = 0 ∧ e = linesE l) ∨ (linesE l = 0 ∧ knE k ≠ 0 ∧ i = 0 ∧ e = knE k) ∨ (linesE l = 0 ∧ knE k = 0 ∧ ((i = 0 ∧ e = 0 ∧ ∀ j, j < l.length → lineOk l k j = 0) ∨ ∃ j : Nat, j < l.length ∧ i = j ∧ e = lineOk l k j ∧ e ≠ 0 ∧ ∀ q, q < j → lineOk l k q = 0))
theorem valsK_succ (l : List Ln) (k : Kn) (j : Nat) : (fun s : ByteArray => if (lnth l j).name.data = s.data then some j else valsK l k j s) = valsK l k (j + 1) := by
  funext s
  unfold valsK
  simp only [lastN]
  split <;> simp_all
def BindRet (w : World) (l : List Ln) (k : Kn) (e : Ending) (w' : World) : Prop := ∃ i er : Int, e = .returned (.tuple #[.int .i64 i, .int .i64 er]) ∧ BindIs l k i er ∧ Below w.heap.size w w'
theorem LBox.name (w : World) (v0 v1 v2 v3 v4 v5 : Value) (T : TypeId) : (w.alloc (.cells #[v0, v1, v2, v3, v4, v5] T)).cell? ⟨w.heap.size, 1, none⟩ = some v1 := by simp
theorem MapIs.kept {w w' : World} {b n c : Nat} {g : ByteArray → Option Nat} (h : MapIs w b n g) (hg : w.grownBy w' (some c)) (hne : b ≠ c) : MapIs w' b n g := by
  obtain ⟨D, h1, h2⟩ := h
  exact ⟨D, h1.kept hg (by intro e; injection e with e; exact hne e), h2⟩
theorem linesE_40 {l : List Ln} (h : linesE l = 0) : l.length ≤ 40 := by
  unfold linesE at h
  by_cases c : 40 < l.length ∨ ¬ (sumP l l.length ≤ 4000 ∧ maxD l l.length ≤ 20)
  · rw [if_pos c] at h; cases h
  · omega
theorem knE_30 {k : Kn} (h : knE k = 0) : k.ins.length ≤ 30 ∧ k.tbs.length ≤ 30 ∧ k.yrs.length ≤ 30 := by
  unfold knE at h
  by_cases c : 30 < k.ins.length ∨ 30 < k.tbs.length ∨ 30 < k.yrs.length
  · rw [if_pos c] at h; cases h
  · omega
set_option maxRecDepth 100000 in
set_option maxHeartbeats 4000000 in
theorem Lines_any (a : Option Addr) (n cap : Nat) (l : List Ln) (a1 a2 a3 : Option Addr) (n1 n2 n3 c1 c2 c3 : Nat) (k : Kn) (w : World) (hS : Shp w) (hl : CameL w a l) (hn : l.length = n) (hm : n ≤ maxLen) (hc : CameK w a1 a2 a3 k) (h1 : k.ins.length = n1) (h2 : k.tbs.length = n2) (h3 : k.yrs.length = n3) :
    Calls Tryd.prog 12 #[.slice a n cap, .agg #[.slice a1 n1 c1, .slice a2 n2 c2, .slice a3 n3 c3]] w fun e w' => BindRet w l k e w' := by
  have hm' : n ≤ 9223372036854775807 := by unfold maxLen at hm; omega
  have HM := Lib.hid hm
  have HL := Lib.hid hl
  have HN := Lib.hid hn
  have HC := Lib.hid hc
  have HS := Lib.hid hS
  have H1 := Lib.hid h1
  have H2 := Lib.hid h2
  have H3 := Lib.hid h3
  clear hl hn hc h1 h2 h3 hm hS
  have HB0 := Lib.hid (kbelow_box w (.cells #[.slice a1 n1 c1, .slice a2 n2 c2, .slice a3 n3 c3] 25))
  have HK0 := Lib.hid (KAt.made w (.slice a1 n1 c1) (.slice a2 n2 c2) (.slice a3 n3 c3) 25)
  go_enter Tryd.func12, Tryd.ntmps12
  go_wp2_with fail
  refine (check_lines a n cap l _ (HS.out.below HB0.out) (HL.out.below HB0.out) HN.out HM.out).mono ?_
  rintro e w1 ⟨rfl, hb1⟩
  have HB1 := Lib.hid (HB0.out.trans (hb1.mono HB0.out.size))
  have HK1 := Lib.hid (KAt.below HK0.out hb1)
  clear hb1 HK0 HB0
  obtain ⟨_, x0, x1, x2⟩ := HK1.out
  by_cases z1 : linesE l = 0
  · have HZ1 := Lib.hid z1
    rw [z1]
    clear z1
    go_wp2_with fail
    refine (Known_any a1 a2 a3 n1 n2 n3 c1 c2 c3 k _ (HC.out.below HB1.out) H1.out H2.out H3.out).mono ?_
    rintro e w2 ⟨rfl, hb2⟩
    have HB2 := Lib.hid (HB1.out.trans (hb2.mono HB1.out.size))
    have HK2 := Lib.hid (KAt.below HK1.out hb2)
    clear hb2 HK1 HB1 x0 x1 x2
    obtain ⟨_, x0, x1, x2⟩ := HK2.out
    by_cases z2 : knE k = 0
    · have HZ2 := Lib.hid z2
      rw [z2]
      clear z2
      have h40 : n ≤ 40 := by have := linesE_40 HZ1.out; have := HN.out; omega
      have HLF : Hid (∀ j, j < n → (lnth l j).name.size ≤ maxLen) := fun j hj => by
        obtain ⟨_, _, _, h⟩ := HL.out.open HN.out (by omega)
        obtain ⟨_, _, _, h, _⟩ := h w (Below.refl _ _) j hj
        exact h
      have HTF : Hid (∀ j, j < n2 → (tnth k.tbs j).name.size ≤ maxLen) := fun j hj => by
        obtain ⟨_, _, _, h⟩ := HC.out.2.1.open H2.out (by omega)
        obtain ⟨_, _, _, _, _, h, _⟩ := h w (Below.refl _ _) j hj
        exact h
      have h30 := knE_30 HZ2.out
      have e1 := H1.out
      have e2 := H2.out
      have e3 := H3.out
      go_wp2_with fail
      refine (meantIn_any a n cap l a1 a2 a3 n1 n2 n3 c1 c2 c3 k _ (HL.out.below HB2.out) HN.out h40 HLF.out (HC.out.below HB2.out) HTF.out H1.out H2.out H3.out (by omega) (by omega) (by omega)).mono ?_
      rintro e w3 ⟨b1, b2, b3, b4, rfl, hb1, hb12, hb23, hb34, hmt, hb3⟩
      have HB3 := Lib.hid (HB2.out.trans (hb3.mono HB2.out.size))
      have HMT := Lib.hid hmt
      have hbw : w.heap.size ≤ b1 := Nat.le_trans HB2.out.size hb1
      clear hb3 hmt HK2 HTF h30 e1 e2 e3 x0 x1 x2
      go_wp2_with fail
      have HSC0 : Hid (Sc ((w3.alloc (.cells #[.map (some b1), .map (some b2), .map (some b3), .map (some b4)] 62)).alloc (.cells #[.map (some b2), .map (some b1), .map (some b3)] 65)) (w3.heap.size + 1) b2 b1 b3 (k.ins.length + 0) l.length k.tbs.length (valsK l k 0) (linesG l) (tabsG k)) := by
        have q1 := kbelow_box w3 (.cells #[.map (some b1), .map (some b2), .map (some b3), .map (some b4)] 62)
        have q2 := kbelow_box (w3.alloc (.cells #[.map (some b1), .map (some b2), .map (some b3), .map (some b4)] 62)) (.cells #[.map (some b2), .map (some b1), .map (some b3)] 65)
        refine ⟨?_, ?_, ?_, ?_, (HMT.out.2.1.below q1).below q2, (HMT.out.1.below q1).below q2, (HMT.out.2.2.1.below q1).below q2⟩ <;> simp
      have HB4 := Lib.hid ((HB3.out.alloc HB3.out.size (.cells #[.map (some b1), .map (some b2), .map (some b3), .map (some b4)] 62)).alloc (HB3.out.alloc HB3.out.size (.cells #[.map (some b1), .map (some b2), .map (some b3), .map (some b4)] 62)).size (.cells #[.map (some b2), .map (some b1), .map (some b3)] 65))
      have hsb : b2 ≠ w3.heap.size + 1 := by have := HMT.out.2.1.lt; omega
      have HO := Lib.hid (fun h0 => HL.out.open HN.out h0)
      have hins : k.ins.length ≤ 30 := (knE_30 HZ2.out).1
      clear HMT HB3
      generalize w3.heap.size + 1 = sb at *
      go_loopw [36] (fun i wr => ∃ j : Nat, j ≤ n ∧ i = .int .i64 j ∧ (∀ q, q < j → lineOk l k q = 0) ∧ Sc wr sb b2 b1 b3 (k.ins.length + j) l.length k.tbs.length (valsK l k j) (linesG l) (tabsG k) ∧ Below w.heap.size w wr) (fun i _ => n - (intOf i).toNat)
      case atStart => exact ⟨0, Nat.zero_le _, rfl, fun q hq => by omega, HSC0.out, HB4.out⟩
      case round =>
        clear HSC0 HB4
        obtain ⟨j, hj, rfl, hall, hsc, hb⟩ := hrel
        have HA := Lib.hid hall
        have HSC := Lib.hid hsc
        have HB := Lib.hid hb
        clear hall hsc hb
        by_cases hlt : j < n
        · have hlt' : (j : Int) < (n : Int) := by omega
          have HJ : Hid (j < l.length) := by have := HN.out; unfold Hid; omega
          obtain ⟨b, off, rfl, hcell⟩ := HO.out (by omega)
          obtain ⟨aj, cj, ⟨x0, x1, x2, x3, x4, x5⟩, hns, hkj⟩ := hcell wr HB.out j hlt
          have HKJ := Lib.hid hkj
          clear hcell hkj hns
          have HBJ := Lib.hid (kbelow_box wr (.cells #[.int .i64 (lnth l j).kind, .string (lnth l j).name, .int .i64 (lnth l j).ex.k, .int .i64 (lnth l j).ex.n, .string (lnth l j).ex.s, .slice aj (lnth l j).ex.m cj] 52))
          have HLB := Lib.hid (LBox.made wr (.int .i64 (lnth l j).kind) (.string (lnth l j).name) (.int .i64 (lnth l j).ex.k) (.int .i64 (lnth l j).ex.n) (.string (lnth l j).ex.s) (.slice aj (lnth l j).ex.m cj) 52)
          have HLN := Lib.hid (LBox.name wr (.int .i64 (lnth l j).kind) (.string (lnth l j).name) (.int .i64 (lnth l j).ex.k) (.int .i64 (lnth l j).ex.n) (.string (lnth l j).ex.s) (.slice aj (lnth l j).ex.m cj) 52)
          have HSC1 := Lib.hid (HSC.out.below HBJ.out)
          obtain ⟨_, y0, y1, y2, ⟨D, hown, hD⟩, _, _⟩ := HSC1.out
          have HD := Lib.hid (hD (lnth l j).name).1
          have hkey := key_of (HLF.out j hlt)
          clear hD
          cases hv : (valsK l k j (lnth l j).name).isSome
          · have hhas : Maps.has D (.string (lnth l j).name.data.toList) = false := by rw [HD.out, hv]
            go_wp2_with (first
              | (at_lookup; refine wpList_lookup_own_ok_int _ rfl _ _ 60 rfl 9 3 .i64 strLaw Tryd.underlying60 Tryd.underlying3 (zeroInt _) _ _ _ rfl hown _ _ rfl hkey ?_; intro c0 hat hwc; rw [hhas]))
            refine (knows_any (lnth l j).ex aj cj b2 b1 b3 _ _ _ _ _ _ _ HSC1.out.2.2.2.2.1 HSC1.out.2.2.2.2.2.1 HSC1.out.2.2.2.2.2.2 (HKJ.out.below HBJ.out)).mono ?_
            rintro e w9 ⟨rfl, hb9⟩
            have HB9 := Lib.hid (HB.out.trans ((HBJ.out.trans (hb9.mono HBJ.out.size)).mono HB.out.size))
            have HSC9 := Lib.hid (HSC1.out.below hb9)
            have u1 := (hb9.cell (p := ⟨wr.heap.size, 1, none⟩) HLB.out.1).trans HLN.out
            clear hb9 x0 x1 x2 x3 x4 x5 y0 y1 y2 hown hat hwc hhas HD
            cases hkn : (lnth l j).ex.all (knowB (valsK l k j) (linesG l) (tabsG k))
            · have HR : Hid (BindIs l k j 5) := by
                have ho : lineOk l k j = 5 := by unfold lineOk; rw [hv, hkn]; rfl
                exact .inr (.inr ⟨HZ1.out, HZ2.out, .inr ⟨j, HJ.out, rfl, ho.symm, by omega, HA.out⟩⟩)
              go_wp2_with fail
              go_ret2
              exact ⟨_, _, rfl, HR.out, HB9.out⟩
            · have HA1 : Hid (∀ q, q < j + 1 → lineOk l k q = 0) := fun q hq => by
                by_cases e : q = j
                · subst e; unfold lineOk; rw [hv, hkn]; rfl
                · exact HA.out q (by omega)
              obtain ⟨hs9, y0, y1, y2, ⟨D9, hown9, hD9⟩, m1, m2⟩ := HSC9.out
              have HD9 := Lib.hid hD9
              have HM1 := Lib.hid m1
              have HM2 := Lib.hid m2
              clear hD9 m1 m2 hkn hv
              go_wp2_with (first
                | (at_mapUpdate; refine wpList_mapUpdate_own _ rfl _ _ _ 60 rfl 9 3 strLaw Tryd.underlying60 (plainElem (H := Unit) Tryd.prog 3) b2 (k.ins.length + j) _ rfl hown9 (by unfold maxLen; omega) _ _ _ rfl rfl hkey (.lit (.int .i64 (j : Int))) [] (plainElem_int Tryd.underlying3 (WalkArith.wf_i64 (by omega))) ?_; intro w2' hown2 hgrow2))
              go_roundw
              case rel =>
                refine ⟨j + 1, by omega, by go_num, HA1.out, ⟨Nat.lt_of_lt_of_le hs9 hgrow2.size, ?_, ?_, ?_, ⟨_, hown2, ?_⟩, HM1.out.kept hgrow2 (by omega), HM2.out.kept hgrow2 (by omega)⟩, HB9.out.grown hgrow2 HB9.out.size (fun q hq => by cases hq; omega)⟩
                · rw [World.cell?_of_block (w := w9) (hgrow2.block sb hs9 (by intro h; injection h with h; exact hsb h.symm))]; exact y0
                · rw [World.cell?_of_block (w := w9) (hgrow2.block sb hs9 (by intro h; injection h with h; exact hsb h.symm))]; exact y1
                · rw [World.cell?_of_block (w := w9) (hgrow2.block sb hs9 (by intro h; injection h with h; exact hsb h.symm))]; exact y2
                · rw [← valsK_succ]; exact map_put hown9.isMap HD9.out
              case measure => simp [intOf]; omega
          · have hhas : Maps.has D (.string (lnth l j).name.data.toList) = true := by rw [HD.out, hv]
            have HR : Hid (BindIs l k j 6) := by
              have ho : lineOk l k j = 6 := by unfold lineOk; rw [hv]; rfl
              exact .inr (.inr ⟨HZ1.out, HZ2.out, .inr ⟨j, HJ.out, rfl, ho.symm, by omega, HA.out⟩⟩)
            have HBR := Lib.hid (HB.out.trans (HBJ.out.mono HB.out.size))
            go_wp2_with (first
              | (at_lookup; refine wpList_lookup_own_ok_int _ rfl _ _ 60 rfl 9 3 .i64 strLaw Tryd.underlying60 Tryd.underlying3 (zeroInt _) _ _ _ rfl hown _ _ rfl hkey ?_; intro c0 hat hwc; rw [hhas]))
            go_ret2
            exact ⟨_, _, rfl, HR.out, HBR.out⟩
        · have hjn : j = n := by omega
          have HR : Hid (BindIs l k 0 0) := .inr (.inr ⟨HZ1.out, HZ2.out, .inl ⟨rfl, rfl, fun q hq => HA.out q (by have := HN.out; omega)⟩⟩)
          subst hjn
          go_wp2_with fail
          go_ret2
          exact ⟨_, _, rfl, HR.out, HB.out⟩
    · have z2B : decide (knE k = 0) = false := decide_eq_false z2
      have z2N : (knE k != 0) = true := by simpa using z2
      have HR : Hid (BindIs l k 0 (knE k)) := .inr (.inl ⟨HZ1.out, z2, rfl, rfl⟩)
      generalize knE k = z at *
      go_wp2_with fail
      go_ret2
      exact ⟨_, _, rfl, HR.out, HB2.out⟩
  · have z1B : decide (linesE l = 0) = false := decide_eq_false z1
    have z1N : (linesE l != 0) = true := by simpa using z1
    have HR : Hid (BindIs l k 0 (linesE l)) := .inl ⟨z1, rfl, rfl⟩
    generalize linesE l = z at *
    go_wp2_with fail
    go_ret2
    exact ⟨_, _, rfl, HR.out, HB1.out⟩
end Go.Proofs.YtoingnhiipfnlaaDoor
