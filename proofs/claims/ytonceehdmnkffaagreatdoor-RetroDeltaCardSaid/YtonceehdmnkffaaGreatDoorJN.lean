/-
  Promise N2: what value.Lines answers, said in one way; what lines come to is money; sums that are added to.
  Promise N2: what the lines come to in one period: the walk of reckon.
  Promise N2: a list of lists of ints of the call's own, that others are appended to.
  Promise N2: periods one behind the other, as they are reckoned: said without memory.
  Promise N2: what Fresh keeps in memory from period to period.
  Promise N3: is an input known otherwise at a day: the walk of differ.
  Promise N3: the first period that is known otherwise: the walk of First.
  Promise N2: all periods: the walk of Fresh.
-/
import Derived.Test.YtonceehdmnkffaaGreatDoorJM
import Derived.Test.YtonceehdmnkffaaGreatDoorJL
namespace Go.Proofs.YtonceehdmnkffaaGreatDoor
open Go.RowKit Go.Sort

/-- What value.Lines answers: values, a place, an error. -/
def LinR (l : List Ln) (k : Kn) (w : World) (rv : Value) (i er : Int) (w' : World) : Prop :=
  (er ≠ 0 ∧ rv = .slice none 0 0 ∧ (BindIs l k i er ∨ (BindIs l k 0 0 ∧ er = 3 ∧ ∃ vs, linesV l k l.length = (vs, false)))) ∨
    (er = 0 ∧ BindIs l k 0 0 ∧ ∃ vs B, linesV l k l.length = (vs, true) ∧ w.heap.size ≤ B ∧ Grow w' B rv vs)
theorem linesR_one {l : List Ln} {k : Kn} {w : World} {e : Ending} {w' : World} (h : linesR l k w e w') : ∃ (rv : Value) (i er : Int), e = .returned (.tuple #[rv, .int .i64 i, .int .i64 er]) ∧ LinR l k w rv i er w' ∧ Below w.heap.size w w' := by
  obtain ⟨hb, ⟨i, er, h0, h1, rfl⟩ | ⟨h1, vs, h2, rfl⟩ | ⟨h1, vs, v, B, h2, h3, h4, rfl⟩⟩ := h
  · exact ⟨_, i, er, rfl, .inl ⟨h0, rfl, .inl h1⟩, hb⟩
  · exact ⟨_, _, 3, rfl, .inl ⟨by decide, rfl, .inr ⟨h1, rfl, vs, h2⟩⟩, hb⟩
  · exact ⟨v, 0, 0, rfl, .inr ⟨rfl, h1, vs, B, h2, h3, h4⟩, hb⟩
theorem linesV_ok {l : List Ln} {kn : Kn} (hE : linesE l = 0) (hok : ∀ q, q < l.length → lineOk l kn q = 0) (hkn : knE kn = 0) : ∀ (n : Nat), n ≤ l.length → ∀ vs, linesV l kn n = (vs, true) → vs.length = n ∧ ScOk kn vs
  | 0, _, vs, h => by
    simp only [linesV, Prod.mk.injEq] at h
    obtain ⟨rfl, _⟩ := h
    exact ⟨rfl, kn_ok hkn⟩
  | n + 1, hn, vs, h => by
    obtain ⟨ws, b, hw⟩ : ∃ ws b, linesV l kn n = (ws, b) := ⟨_, _, rfl⟩
    simp only [linesV, hw] at h
    cases b
    · simp at h
    · obtain ⟨h1, h2⟩ := linesV_ok hE hok hkn n (by omega) ws hw
      have hc := line_comes (vs := ws) hE hok h2 (by omega)
      rw [h1] at hc
      cases hv : (lnth l n).ex.val l kn ws with
      | none => simp [hv] at h
      | some v =>
        simp only [hv, Prod.mk.injEq, and_true] at h
        subst h
        exact ⟨by simp [h1], h2.more (hc.2 v hv)⟩
/-- The sums when the first k values have been added. -/
def addK (sums vs : List Int) : Nat → List Int
  | 0 => sums
  | k + 1 => (addK sums vs k).set k (nth sums k + nth vs k)
theorem addK_len (sums vs : List Int) : ∀ k, (addK sums vs k).length = sums.length
  | 0 => rfl
  | k + 1 => by rw [addK, List.length_set, addK_len sums vs k]
theorem addK_at (sums vs : List Int) (j : Nat) (hj : j < sums.length) : ∀ k, nth (addK sums vs k) j = if j < k then nth sums j + nth vs j else nth sums j
  | 0 => by simp [addK]
  | k + 1 => by
    have ih := addK_at sums vs j hj k
    by_cases hk : k < sums.length
    · rw [addK, nth_set (by rw [addK_len]; exact hk), ih]
      by_cases e : j = k
      · subst e; simp
      · rw [if_neg e]
        by_cases h : j < k
        · rw [if_pos h, if_pos (by omega)]
        · rw [if_neg h, if_neg (by omega)]
    · rw [addK, List.set_eq_of_length_le (by rw [addK_len]; omega), ih, if_pos (by omega), if_pos (by omega)]
theorem addK_here (sums vs : List Int) {k : Nat} (hk : k < sums.length) : nth (addK sums vs k) k = nth sums k := by rw [addK_at sums vs k hk, if_neg (by omega)]
end Go.Proofs.YtonceehdmnkffaaGreatDoor
set_option linter.unusedSimpArgs false
namespace Go.Proofs.YtonceehdmnkffaaGreatDoor
open Go.RowKit Go.Sort

theorem inputs_two (rb : Nat) (p : Pl) (al at' ai : Option Addr) (nl nt ni cl ct ci : Nat) (seen year day : Int) (v : Value) (w : World) (hr : RkAt w rb p al at' ai nl nt ni cl ct ci seen year v) (hc : CameI w ai p.ins) (h3 : p.ins.length = ni) (hni : ni ≤ 30) :
    Calls Tryz.prog 70 #[.pointer (some ⟨rb, 0, none⟩), .int .i64 day] w fun e w' => ∃ x c, e = .returned (.slice x ni c) ∧ CameA w' x (insAt p day seen ni) ∧ Below w.heap.size w w' := by
  refine (inputs_any rb p al at' ai nl nt ni cl ct ci seen year day v w hr hc h3 hni).mono ?_
  rintro e w' ⟨u, rfl, hg, hb⟩
  obtain ⟨x, c, rfl, hx⟩ := hg.slice
  exact ⟨x, c, by unfold insAt; rw [inAms_len], hx, hb⟩
/-- The sums of the year to which a day belongs. -/
def sumsAt (year : Int) (k nl : Nat) (sums : List Int) : List Int := if year = 2000 + k then sums else List.replicate nl 0
/-- Where the sums are. -/
def SumsAt (w : World) (B rb : Nat) (nl : Nat) (v : Value) (sums : List Int) : Prop := ∃ g, v = .slice (some ⟨g, 0, none⟩) nl nl ∧ Own w g sums ∧ B ≤ g ∧ g ≠ rb
theorem goTo_two (B rb : Nat) (p : Pl) (al at' ai : Option Addr) (nl nt ni cl ct ci : Nat) (seen year day : Int) (v : Value) (sums : List Int) (w : World) (hB : B ≤ w.heap.size) (hr : RkAt w rb p al at' ai nl nt ni cl ct ci seen year v) (hd : Cal.dayB day = true) (hnl : nl ≤ 30) (hv : year = 0 ∨ SumsAt w B rb nl v sums) :
    Calls Tryz.prog 68 #[.pointer (some ⟨rb, 0, none⟩), .int .i64 day] w fun e w' => e = .returned (.tuple #[]) ∧ ∃ (k m : Nat) (d : Int) (g : Nat), Cal.IsCivil day k m d ∧ RkAt w' rb p al at' ai nl nt ni cl ct ci seen (2000 + k) (.slice (some ⟨g, 0, none⟩) nl nl) ∧ Own w' g (sumsAt year k nl sums) ∧ B ≤ g ∧ g ≠ rb ∧ (v = .slice (some ⟨g, 0, none⟩) nl nl ∨ w.heap.size ≤ g) ∧ w.grownBy w' (some rb) := by
  refine (goTo_any rb p al at' ai nl nt ni cl ct ci seen year day v w hr hd hnl).mono ?_
  rintro e w' ⟨rfl, k, m, d, hciv, ⟨hy, hb⟩ | ⟨hy, g, hg, hr', hown, hgr⟩⟩
  · rcases hv with h0 | ⟨g, rfl, hown, hBg, hne⟩
    · omega
    · refine ⟨rfl, k, m, d, g, hciv, ?_, ?_, hBg, hne, .inl rfl, hb.os, hb.tape, hb.output, hb.size, fun j hj _ => hb.block j hj⟩
      · rw [← hy]; exact hr.below hb hr.pb.1
      · rw [sumsAt, if_pos hy]
        exact ⟨Nat.lt_of_lt_of_le hown.1 hb.size, fun j hj => ⟨(hb.cell (p := ⟨g, j, none⟩) hown.1).trans (hown.2 j hj).1, (hb.frozen (p := ⟨g, j, none⟩) hown.1).trans (hown.2 j hj).2⟩⟩
  · exact ⟨rfl, k, m, d, g, hciv, hr', by rw [sumsAt, if_neg hy]; exact hown, Nat.le_trans hB hg, by have := hr.pb.1; omega, .inr hg, hgr⟩
/-- What lines are bound by in a period. -/
def knAt (p : Pl) (day seen : Int) (ni : Nat) (yrs : List Am) : Kn := ⟨insAt p day seen ni, p.tbs, yrs⟩
theorem yrs_fit {w : World} {a : Option Addr} {p : Pl} {nl : Nat} (hl : CameL w a p.lns) (h1 : p.lns.length = nl) (sums : List Int) : ∀ k, k ≤ nl → ∀ x ∈ yrsK p.lns sums k, x.name.size ≤ maxLen
  | 0, _, x, hx => by simp [yrsK] at hx
  | k + 1, hk, x, hx => by
    rw [yrsK] at hx
    split at hx
    · exact yrs_fit hl h1 sums k (by omega) x hx
    · rcases List.mem_append.1 hx with hx | hx
      · exact yrs_fit hl h1 sums k (by omega) x hx
      · obtain rfl : x = ⟨(lnth p.lns k).name, nth sums k⟩ := by simpa using hx
        obtain ⟨_, _, _, q⟩ := hl.open h1 (by omega)
        obtain ⟨_, _, _, q, _⟩ := q w (Below.refl _ _) k (by omega)
        exact q
/-- The worlds differ at most in the block g. -/
structure OnlyG (g : Nat) (w w' : World) : Prop where
  os : w'.os = w.os
  tape : w'.tape = w.tape
  output : w'.output = w.output
  size : w'.heap.size = w.heap.size
  block : ∀ b, b ≠ g → w'.heap[b]? = w.heap[b]?
theorem OnlyG.refl (g : Nat) (w : World) : OnlyG g w w := ⟨rfl, rfl, rfl, rfl, fun _ _ => rfl⟩
theorem OnlyG.set {g : Nat} {w w' : World} (h : OnlyG g w w') (j : Nat) (v : Value) : OnlyG g w (w'.setCell ⟨g, j, none⟩ v) :=
  ⟨h.os, h.tape, h.output, by simpa using h.size, fun b hb => (Below.heap_setCell w' ⟨g, j, none⟩ v b hb).trans (h.block b hb)⟩
theorem OnlyG.cell {g : Nat} {w w' : World} (h : OnlyG g w w') {p : Addr} (hp : p.block ≠ g) : w'.cell? p = w.cell? p := World.cell?_of_block (w := w) (h.block p.block hp)
theorem OnlyG.frozen {g : Nat} {w w' : World} (h : OnlyG g w w') {p : Addr} (hp : p.block ≠ g) : w'.frozen? p = w.frozen? p := World.frozen?_of_block (w := w) (h.block p.block hp)
theorem OnlyG.below {g : Nat} {w w' : World} (h : OnlyG g w w') {B : Nat} (hB : B ≤ g) : Below B w w' := ⟨h.os, h.tape, h.output, Nat.le_of_eq h.size.symm, fun b hb => h.block b (by omega)⟩
theorem OnlyG.rk {g : Nat} {w w' : World} (h : OnlyG g w w') {rb : Nat} {p : Pl} {al at' ai : Option Addr} {nl nt ni cl ct ci : Nat} {seen year : Int} {v : Value} (hne : rb ≠ g) (hr : RkAt w rb p al at' ai nl nt ni cl ct ci seen year v) : RkAt w' rb p al at' ai nl nt ni cl ct ci seen year v := by
  obtain ⟨⟨h0, h1, h2, h3, h4, h5, h6⟩, hs, hy, hv, hfy, hfv⟩ := hr
  exact ⟨⟨by rw [h.size]; exact h0, (h.cell (p := ⟨rb, 0, none⟩) hne).trans h1, (h.cell (p := ⟨rb, 1, none⟩) hne).trans h2, (h.cell (p := ⟨rb, 2, none⟩) hne).trans h3, (h.cell (p := ⟨rb, 3, none⟩) hne).trans h4, (h.cell (p := ⟨rb, 4, none⟩) hne).trans h5, (h.cell (p := ⟨rb, 5, none⟩) hne).trans h6⟩, (h.cell (p := ⟨rb, 6, none⟩) hne).trans hs, (h.cell (p := ⟨rb, 7, none⟩) hne).trans hy, (h.cell (p := ⟨rb, 8, none⟩) hne).trans hv, (h.frozen (p := ⟨rb, 7, none⟩) hne).trans hfy, (h.frozen (p := ⟨rb, 8, none⟩) hne).trans hfv⟩
theorem OnlyG.grow {g : Nat} {w w' : World} (h : OnlyG g w w') {B : Nat} {v : Value} {l : List Int} (hg : Grow w B v l) (hB : g < B) : Grow w' B v l := by
  refine World.ownsRow.kept (row := some g) hg ⟨h.os, h.tape, h.output, Nat.le_of_eq h.size.symm, fun k _ hk => h.block k (fun e => hk (by rw [e]))⟩ ?_
  cases hv : v.ownBlock with
  | none => exact .inl rfl
  | some k =>
    refine .inr fun e => ?_
    injection e with e
    have := (Grow.lt hg k hv).1
    omega
theorem Grow.shape {w : World} {B : Nat} {v : Value} {l : List Int} (h : Grow w B v l) : ∃ a c, v = .slice a l.length c := by
  rcases h.2 with ⟨rfl, h2⟩ | ⟨g, cap, cur, rfl, _⟩
  · exact ⟨none, 0, by rw [h2]⟩
  · exact ⟨_, cap, rfl⟩
/-- What reckon answers. -/
def RecRet (W0 w : World) (rb : Nat) (p : Pl) (al at' ai : Option Addr) (nl nt ni cl ct ci : Nat) (seen year day : Int) (v : Value) (sums : List Int) (e : Ending) (w' : World) : Prop :=
  ∃ (k m : Nat) (d : Int) (yrs : List Am), Cal.IsCivil day k m d ∧ yrs.Perm (yrsK p.lns (sumsAt year k nl sums) nl) ∧ (∀ i j, i < j → j < yrs.length → ltS (anth yrs j).name (anth yrs i).name = false) ∧ Below W0.heap.size W0 w' ∧
    ((∃ er : Int, er ≠ 0 ∧ e = .returned (.tuple #[.slice none 0 0, .int .i64 er]) ∧ ((∃ i, BindIs p.lns (knAt p day seen ni yrs) i er) ∨ (BindIs p.lns (knAt p day seen ni yrs) 0 0 ∧ er = 3 ∧ ∃ vs, linesV p.lns (knAt p day seen ni yrs) nl = (vs, false)))) ∨
      (BindIs p.lns (knAt p day seen ni yrs) 0 0 ∧ ∃ (vs : List Int) (rv : Value) (B g : Nat), linesV p.lns (knAt p day seen ni yrs) nl = (vs, true) ∧ e = .returned (.tuple #[rv, .int .i64 0]) ∧ w.heap.size ≤ B ∧ Grow w' B rv vs ∧ RkAt w' rb p al at' ai nl nt ni cl ct ci seen (2000 + k) (.slice (some ⟨g, 0, none⟩) nl nl) ∧ Own w' g (addK (sumsAt year k nl sums) vs nl) ∧ W0.heap.size ≤ g ∧ g ≠ rb ∧ g < B ∧ (v = .slice (some ⟨g, 0, none⟩) nl nl ∨ w.heap.size ≤ g) ∧ ∀ j, j < w.heap.size → j ≠ rb → j ≠ g → w'.heap[j]? = w.heap[j]?))
set_option maxRecDepth 100000 in
set_option maxHeartbeats 4000000 in
theorem reckon_any (W0 : World) (rb : Nat) (p : Pl) (al at' ai : Option Addr) (nl nt ni cl ct ci : Nat) (seen year day : Int) (v : Value) (sums : List Int) (w : World) (hS : Shp W0) (hc : CameP W0 al at' ai p) (h1 : p.lns.length = nl) (h2 : p.tbs.length = nt) (h3 : p.ins.length = ni) (hnl : nl ≤ 30) (hni : ni ≤ 30) (hW : Below W0.heap.size W0 w) (hrb : W0.heap.size ≤ rb) (hr : RkAt w rb p al at' ai nl nt ni cl ct ci seen year v) (hd : Cal.dayB day = true) (hv : year = 0 ∨ SumsAt w W0.heap.size rb nl v sums) (hsl : sums.length = nl) (hbd : ∀ j, -59000000000000 ≤ nth sums j ∧ nth sums j ≤ 59000000000000) :
    Calls Tryz.prog 37 #[.pointer (some ⟨rb, 0, none⟩), .int .i64 day] w fun e w' => RecRet W0 w rb p al at' ai nl nt ni cl ct ci seen year day v sums e w' := by
  have HGT := Lib.hid (goTo_two W0.heap.size rb p al at' ai nl nt ni cl ct ci seen year day v sums w hW.size hr hd hnl hv)
  have HS := Lib.hid hS
  have HC := Lib.hid hc
  have H1 := Lib.hid h1
  have H2 := Lib.hid h2
  have H3 := Lib.hid h3
  have HW := Lib.hid hW
  have HSL := Lib.hid hsl
  have HBD := Lib.hid hbd
  clear hS hc h1 h2 h3 hW hr hd hv hsl hbd
  go_enter Tryz.func37, Tryz.ntmps37
  go_wp2_with fail
  refine HGT.out.mono ?_
  rintro e w1 ⟨rfl, k, m, d, g, hciv, hr1, hown, hBg, hgr, hgv, hgrow⟩
  have HW1 : Hid (Below W0.heap.size W0 w1) := Lib.hid (HW.out.grown hgrow HW.out.size fun j hj => by injection hj with hj; omega)
  have HCV := Lib.hid hciv
  have HR1 := Lib.hid hr1
  have HOW := Lib.hid hown
  have HGV := Lib.hid hgv
  have HGR := Lib.hid hgrow
  have hsl1 : (sumsAt year k nl sums).length = nl := by unfold sumsAt; split; exact HSL.out; simp
  have HSL1 := Lib.hid hsl1
  have hbd1 : ∀ j, -59000000000000 ≤ nth (sumsAt year k nl sums) j ∧ nth (sumsAt year k nl sums) j ≤ 59000000000000 := fun j => by
    unfold sumsAt
    split
    · exact HBD.out j
    · rw [nth_replicate]; omega
  have HBD1 := Lib.hid hbd1
  obtain ⟨S, hSe⟩ : ∃ S, sumsAt year k nl sums = S := ⟨_, rfl⟩
  rw [hSe] at HOW HSL1 HBD1
  have HSE := Lib.hid hSe
  clear hciv hr1 hown hgv hgrow hsl1 hbd1 hSe HGT
  have HIN : Hid (∀ W, Below w1.heap.size w1 W → Calls Tryz.prog 70 #[.pointer (some ⟨rb, 0, none⟩), .int .i64 day] W fun e w' => ∃ x c, e = .returned (.slice x ni c) ∧ CameA w' x (insAt p day seen ni) ∧ Below W.heap.size W w') := fun W hW =>
    inputs_two rb p al at' ai nl nt ni cl ct ci seen (2000 + k) day _ W (HR1.out.below hW HR1.out.pb.1) ((HC.out.i.below HW1.out).below hW) H3.out hni
  have HYR : Hid (∀ W, Below w1.heap.size w1 W → Calls Tryz.prog 71 #[.pointer (some ⟨rb, 0, none⟩)] W fun e w' => YrsRet W p S nl e w') := fun W hW =>
    years_any rb g p al at' ai nl nt ni cl ct ci seen (2000 + k) S W (HR1.out.below hW HR1.out.pb.1) ⟨Nat.lt_of_lt_of_le HOW.out.1 hW.size, fun j hj => ⟨(hW.cell (p := ⟨g, j, none⟩) HOW.out.1).trans (HOW.out.2 j hj).1, (hW.frozen (p := ⟨g, j, none⟩) HOW.out.1).trans (HOW.out.2 j hj).2⟩⟩ HSL1.out ((HC.out.l.below HW1.out).below hW) H1.out hnl
  have HLI : Hid (∀ W xi cin xy cy (yrs : List Am), Below w1.heap.size w1 W → CameA W xi (insAt p day seen ni) → CameA W xy yrs → NamesFit yrs → yrs.length ≤ maxLen → Calls Tryz.prog 69 #[.slice al nl cl, .agg #[.slice xi ni cin, .slice at' nt ct, .slice xy yrs.length cy]] W fun e w' => linesR p.lns (knAt p day seen ni yrs) W e w') := fun W xi cin xy cy yrs hW hxi hxy hfy hly => by
    have hW0 := HW1.out.trans (hW.mono HW1.out.size)
    exact VLines_any al nl cl p.lns xi at' xy ni nt yrs.length cin ct cy (knAt p day seen ni yrs) W (HS.out.below hW0) (HC.out.l.below hW0) H1.out (by rw [← H1.out]; exact HC.out.ml) ⟨hxi, HC.out.t.below hW0, hxy, inAms_fit HC.out.i _ _ (by rw [H3.out]; exact Nat.le_refl _), hfy, by unfold knAt insAt; rw [inAms_len]; unfold maxLen; omega, HC.out.mt, hly⟩ (by unfold knAt insAt; rw [inAms_len]) H2.out rfl
  obtain ⟨_, _, _, _, r3, r4, _⟩ := HR1.out.pb
  have HYF := Lib.hid (yrs_fit (HC.out.l.below HW1.out) H1.out S nl (Nat.le_refl _))
  have hyl := yrsK_len p.lns S nl
  go_wp2_with fail
  go_region_held_law (fun w' => w'.cell? ⟨rb, 3, none⟩ = some (.slice al nl cl) ∧ w'.cell? ⟨rb, 4, none⟩ = some (.slice at' nt ct)) (go_keep)
    (first
      | (go_at_call 70; refine (HIN.out _ (kbelow_dN (Below.refl _ _) 1)).mono ?_; rintro e w2 ⟨xi, cin, rfl, hci, hb2⟩
         have HB2 := Lib.hid (nfrom_drew hb2)
         have HCI := Lib.hid hci
         have c3 := (HB2.out.cell (p := ⟨rb, 3, none⟩) (blt_of_cell r3)).trans r3
         have c4 := (HB2.out.cell (p := ⟨rb, 4, none⟩) (blt_of_cell r4)).trans r4
         clear hci hb2)
      | (go_at_call 71; refine (HYR.out _ HB2.out).mono ?_; rintro e w3 ⟨xy, cy, yrs, rfl, hpm, hsr, hcy, hb3⟩
         have HB3 := Lib.hid (HB2.out.trans (hb3.mono HB2.out.size))
         have HCI3 := Lib.hid (HCI.out.below hb3)
         have HCY := Lib.hid hcy
         have HPM := Lib.hid hpm
         have HSR := Lib.hid hsr
         have d3 := (hb3.cell (p := ⟨rb, 3, none⟩) (blt_of_cell c3)).trans c3
         have d4 := (hb3.cell (p := ⟨rb, 4, none⟩) (blt_of_cell c4)).trans c4
         clear hpm hsr hcy hb3)
      | (go_at_call 69; refine (HLI.out _ xi cin xy cy yrs HB3.out HCI3.out HCY.out (fun j hj => HYF.out _ (HPM.out.mem_iff.1 (anth_mem hj))) (by rw [HPM.out.length_eq]; unfold maxLen; omega)).mono ?_; intro e w4 h4; obtain ⟨rv, i4, er, rfl, hlr, hb4⟩ := linesR_one h4
         have HLR := Lib.hid hlr
         have HB4 := Lib.hid (HB3.out.trans (hb4.mono HB3.out.size))
         have e3 := (hb4.cell (p := ⟨rb, 3, none⟩) (blt_of_cell d3)).trans d3
         have e4 := (hb4.cell (p := ⟨rb, 4, none⟩) (blt_of_cell d4)).trans d4
         clear h4 hlr hb4))
  have HW4 := Lib.hid (HW1.out.trans (HB4.out.mono HW1.out.size))
  have HPM' : Hid (yrs.Perm (yrsK p.lns (sumsAt year k nl sums) nl)) := Lib.hid (by rw [HSE.out]; exact HPM.out)
  have HRX := Lib.hid (HR1.out.below HB4.out HR1.out.pb.1)
  have hg1 := HOW.out.1
  have hrb1 := HR1.out.pb.1
  have HOX : Hid (Own w4 g S) := ⟨Nat.lt_of_lt_of_le hg1 HB4.out.size, fun j hj => ⟨(HB4.out.cell (p := ⟨g, j, none⟩) hg1).trans (HOW.out.2 j hj).1, (HB4.out.frozen (p := ⟨g, j, none⟩) hg1).trans (HOW.out.2 j hj).2⟩⟩
  have hw31 : w1.heap.size ≤ w3.heap.size := HB3.out.size
  clear r3 r4 c3 c4 d3 d4 e3 e4 HIN HYR HLI HCI HCI3 HCY HB2
  rcases HLR.out with ⟨h0, rfl, hbi⟩ | ⟨h0, hbi, vs, B, hlv, hB, hgv4⟩
  · have HNE := Lib.hid h0
    have h0' : (er != 0) = true := by simp [h0]
    have HBI := Lib.hid hbi
    clear hbi h0
    go_wp2_with fail
    go_ret2
    refine ⟨k, m, d, yrs, HCV.out, HPM'.out, HSR.out, HW4.out, .inl ⟨er, HNE.out, rfl, ?_⟩⟩
    rcases HBI.out with h | ⟨h1, h2, vs, h3⟩
    · exact .inl ⟨i4, h⟩
    · exact .inr ⟨h1, h2, vs, by rw [← H1.out]; exact h3⟩
  · subst h0
    have HE : Hid (linesE p.lns = 0 ∧ knE (knAt p day seen ni yrs) = 0 ∧ ∀ j, j < p.lns.length → lineOk p.lns (knAt p day seen ni yrs) j = 0) := by
      rcases hbi with ⟨q1, _, q2⟩ | ⟨_, q1, _, q2⟩ | ⟨q1, q2, ⟨_, _, q3⟩ | ⟨_, _, _, _, q, _⟩⟩
      · exact absurd q2.symm q1
      · exact absurd q2.symm q1
      · exact ⟨q1, q2, q3⟩
      · exact absurd rfl q
    obtain ⟨hvl, hvo⟩ := linesV_ok HE.out.1 HE.out.2.2 HE.out.2.1 _ (Nat.le_refl _) vs hlv
    rw [H1.out] at hvl hlv
    have HBI := Lib.hid hbi
    have HLV := Lib.hid hlv
    have HG4 := Lib.hid hgv4
    have HMV : Hid (∀ j, j < nl → monB (nth vs j) = true) := fun j hj => hvo.2.2.2.2.2.2 j (by omega)
    have HVO : Hid (0 < nl → ∃ bv c, rv = .slice (some ⟨bv, 0, none⟩) nl c ∧ B ≤ bv ∧ Own w4 bv vs) := fun h0 => by
      obtain ⟨bv, c, e, h1, h2⟩ := Grow.own HG4.out (by omega)
      exact ⟨bv, c, by rw [e, hvl], h1, h2⟩
    obtain ⟨ra, rc, hrv⟩ := Grow.shape hgv4
    rw [hvl] at hrv
    have HRV := Lib.hid hrv
    have HVLN := Lib.hid hvl
    have hgB : g < B := by omega
    clear hbi hlv hgv4 hvl hvo
    subst hrv
    go_wp2_with fail
    go_loopw [40] (fun i wr => ∃ j : Nat, j ≤ nl ∧ i = .int .i64 j ∧ Own wr g (addK S vs j) ∧ OnlyG g w4 wr) (fun i _ => nl - (intOf i).toNat)
    case atStart => exact ⟨0, Nat.zero_le _, rfl, HOX.out, OnlyG.refl _ _⟩
    case round =>
      obtain ⟨j, hj, rfl, hoj, hon⟩ := hrel
      have HOJ := Lib.hid hoj
      have HON := Lib.hid hon
      clear hoj hon
      by_cases hlt : j < nl
      · have hlt' : (j : Int) < (nl : Int) := by omega
        obtain ⟨bv, c, hre, hBv, hov⟩ := HVO.out (by omega)
        injection hre with hra _ hrc
        subst hra hrc
        have r8 := (HON.out.cell (p := ⟨rb, 8, none⟩) (by show rb ≠ g; omega)).trans HRX.out.v
        have hjS : j < S.length := by rw [HSL1.out]; exact hlt
        have hjA : j < (addK S vs j).length := by rw [addK_len]; exact hjS
        have sj := HOJ.out.cell hjA
        have sf := HOJ.out.free hjA
        have vj := (HON.out.cell (p := ⟨bv, j, none⟩) (by show bv ≠ g; omega)).trans (hov.cell (j := j) (by rw [HVLN.out]; exact hlt))
        rw [addK_here S vs hjS] at sj
        obtain ⟨x, hx⟩ : ∃ x, nth S j = x := ⟨_, rfl⟩
        obtain ⟨y, hy⟩ : ∃ y, nth vs j = y := ⟨_, rfl⟩
        have b1 := HBD1.out j
        have b2 := monB_iff.1 (HMV.out j hlt)
        rw [hx] at sj b1
        rw [hy] at vj b2
        have HX := Lib.hid hx
        have HY := Lib.hid hy
        have i1 : -9223372036854775808 ≤ x + y := by omega
        have i2 : x + y ≤ 9223372036854775807 := by omega
        clear b1 b2 hx hy hov
        go_wp2_with fail
        go_roundw
        case rel => exact ⟨j + 1, by omega, by go_num, by rw [addK, HX.out, HY.out]; exact HOJ.out.set hjA _, HON.out.set j _⟩
        case measure => simp [intOf]; omega
      · obtain rfl : j = nl := by omega
        have hlt' : decide ((j : Int) < (j : Int)) = false := decide_eq_false (by omega)
        go_wp2_with fail
        go_ret2
        refine ⟨k, m, d, yrs, HCV.out, HPM'.out, HSR.out, HW4.out.trans (HON.out.below hBg), .inr ⟨HBI.out, vs, _, B, g, HLV.out, rfl, ?_, HON.out.grow HG4.out hgB, HON.out.rk (by omega) HRX.out, by rw [HSE.out]; exact HOJ.out, hBg, hgr, hgB, HGV.out, fun b hb h1 h2 => ?_⟩⟩
        · have := HGR.out.size; omega
        · refine (HON.out.block b h2).trans ((HB4.out.block b ?_).trans (HGR.out.block b hb (fun e => by injection e with e; exact h1 e)))
          exact Nat.lt_of_lt_of_le hb HGR.out.size
end Go.Proofs.YtonceehdmnkffaaGreatDoor
set_option linter.unusedSimpArgs false
namespace Go.Proofs.YtonceehdmnkffaaGreatDoor
open Go.RowKit Go.Sort

theorem info_row : (Tryz.prog.info? 53).map (fun i => (i.zero, i.size, i.bytes)) = some (some (.slice none 0 0), 1, 24) := by kernel_rfl
/-- The slice v, nil or of the call's own from block B on, holds the slices l. -/
def GrowR (w : World) (B : Nat) (v : Value) (l : List Value) : Prop := w.ownsRow B 53 1 v l.length l
theorem GrowR.nil (w : World) (B : Nat) : GrowR w B (.slice none 0 0) [] := World.ownsRow_nil _ _ _ _
theorem GrowR.lt {w : World} {B : Nat} {v : Value} {l : List Value} (h : GrowR w B v l) : ∀ k, v.ownBlock = some k → B ≤ k ∧ k < w.heap.size := World.ownsRow.lt h
theorem GrowR.keep {w w' : World} {B : Nat} {v : Value} {l : List Value} (h : GrowR w B v l) (hb : ∀ k, v.ownBlock = some k → w'.heap[k]? = w.heap[k]?) : GrowR w' B v l := by
  cases hv : v.ownBlock with
  | none =>
    rcases h.2 with ⟨rfl, h2⟩ | ⟨g, cap, cur, rfl, _⟩
    · have : l = [] := List.eq_nil_of_length_eq_zero h2
      subst this
      exact GrowR.nil _ _
    · cases hv
  | some k =>
    obtain ⟨h1, h2⟩ := h
    refine ⟨h1, h2.imp id ?_⟩
    rintro ⟨g, cap, cur, e, hg, hblk, r⟩
    refine ⟨g, cap, cur, e, hg, ?_, r⟩
    subst e
    rw [hb g rfl]
    exact hblk
theorem grow_keep {w w' : World} {B : Nat} {v : Value} {l : List Int} (h : Grow w B v l) (hb : ∀ k, v.ownBlock = some k → w'.heap[k]? = w.heap[k]?) : Grow w' B v l := by
  cases hv : v.ownBlock with
  | none =>
    rcases h.2 with ⟨rfl, h2⟩ | ⟨g, cap, cur, rfl, _⟩
    · have : l = [] := List.eq_nil_of_length_eq_zero h2
      subst this
      exact Grow.nil _ _
    · cases hv
  | some k =>
    obtain ⟨h1, h2⟩ := h
    refine ⟨h1, h2.imp id ?_⟩
    rintro ⟨g, cap, cur, e, hg, hblk, r⟩
    refine ⟨g, cap, cur, e, hg, ?_, r⟩
    subst e
    rw [hb g rfl]
    exact hblk
theorem wpList_app_row {ops : Array Oper} {rest : List Oper} {o : Oper} {a : Act} {Q : Exit → Act → World → Prop} (w : World) (hgd : o.guard = none) (s x : Operand)
    (ho : o.op = .call { callee := .builtin .append, args := #[s, x], argTypes := #[33, 33] })
    (B : Nat) (v : Value) (l : List Value) (hs : a.eval s = v) (hown : GrowR w B v l) (b c : Nat) (u : Value) (hu : u.oneCell' = true) (hx : a.eval x = .slice (some ⟨b, 0, none⟩) 1 c) (hsrc : w.cell? ⟨b, 0, none⟩ = some u)
    (hl : l.length ≤ 1000) (hB : B ≤ w.heap.size)
    (h : ∀ v' w', GrowR w' B v' (l ++ [u]) → w.grownBy w' v.ownBlock → Go.RowKit.Below B w w' → (v'.ownBlock = v.ownBlock ∨ v'.ownBlock = some w.heap.size) → wpList Tryz.prog ops Q rest (a.put o.dst v') w') :
    wpList Tryz.prog ops Q (o :: rest) a w := by
  obtain ⟨i0, hi, hz0, hz1, hz2⟩ := info_parts info_row
  have hnews : ∀ j z, [u][j]? = some z → w.cell? ((⟨b, 0, none⟩ : Addr).add j) = some z := by
    intro j z hj
    match j, hj with
    | 0, hj => simp at hj; subst hj; simpa [Addr.add] using hsrc
  obtain ⟨v', w', hr, h2, h3, _, h5⟩ := run_append_own_at (P := Tryz.prog) w B 33 o.type 53 i0 _ 1 24 Tryz.underlying33 hi hz0 hz1 hz2 rfl (by decide) v l.length l hown ⟨b, 0, none⟩ 1 c [u] rfl hnews (fun z hz => by simp at hz; subst hz; exact hu) (by unfold maxLen; omega) (by omega) hB
  refine wpList_plain hgd fun _ hK => ?_
  unfold Oper.wp execOp
  simp only [ho, resolve, invoke, builtin, Sem.run_bind, Sem.run_pure, Result.andThen_ok, List.map_toArray, List.map_cons, List.map_nil, hs, hx, hr]
  refine hK _ _ (h v' w' ?_ h3 ((Below.refl B w).grown h3 hB fun k hk => (GrowR.lt hown k hk).1) h5)
  unfold GrowR
  rw [List.length_append]
  exact h2
end Go.Proofs.YtonceehdmnkffaaGreatDoor
namespace Go.Proofs.YtonceehdmnkffaaGreatDoor
open Go.RowKit Go.Sort

/-- A period's first day is a day. -/
theorem at_day {K A L k f t : Int} (h : Cal.AtIs K A L k f t 0) : Cal.dayB f = true ∧ 0 ≤ k ∧ k < 5000 := by
  have key : (0 ≤ f ∧ f ≤ 73048) ∧ 0 ≤ k ∧ k < 5000 := by
    rcases h with ⟨h, _, _, h'⟩ | ⟨hz, ⟨_, _, _, h⟩ | ⟨hk, h⟩⟩
    · exact absurd h'.symm h
    · omega
    · obtain ⟨_, _, hA, _, _⟩ := Cal.schedE_ok hz
      have hA' : 0 ≤ A ∧ A ≤ 73048 := of_decide_eq_true hA
      refine ⟨?_, hk⟩
      rcases h with ⟨hK, h⟩ | ⟨_, k0, m0, d0, hc, h⟩ | ⟨_, k0, m0, d0, hc, h⟩
      · rcases h with ⟨_, _, _, h⟩ | ⟨h1, h2, _, _⟩
        · omega
        · rcases hK with rfl | rfl <;> omega
      · have hm := hc.m1
        rcases h with ⟨_, _, _, h⟩ | ⟨h1, h2, _, _⟩
        · omega
        · rw [h2]
          exact Cal.mDay_bd (by omega) h1 (by omega)
      · have hm := hc.m1
        have hd : 0 ≤ Cal.hf d0 ∧ Cal.hf d0 ≤ 1 := Cal.hf_bd d0
        rcases h with ⟨_, _, _, h⟩ | ⟨h1, _, h2, _, _⟩ | ⟨h1, _, h2, _, _⟩
        · omega
        · rw [h2]
          exact Cal.mDay_bd (by omega) (by omega) (by omega)
        · rw [h2, Cal.mDay_first (by omega)]
          have e1 := Cal.fm_low (M := ((12 * (k0 : Int) + (m0 : Int) - 1) * 2 + Cal.hf d0 + k) / 2) (by omega) (by omega)
          have e2 := Cal.fm_bd (M := ((12 * (k0 : Int) + (m0 : Int) - 1) * 2 + Cal.hf d0 + k) / 2) (by omega) (by omega)
          omega
  exact ⟨decide_eq_true key.1, key.2⟩
/-- Amounts that rise by their names, of those lines that did not come to 0. -/
def YrsOf (l : List Ln) (sums : List Int) (nl : Nat) (yrs : List Am) : Prop := yrs.Perm (yrsK l sums nl) ∧ ∀ i j, i < j → j < yrs.length → ltS (anth yrs j).name (anth yrs i).name = false
/-- So many periods from a number on have been reckoned: the year, its sums, what the lines came to. -/
inductive Runs (p : Pl) (seen from_ : Int) (nl ni : Nat) : Nat → Int → List Int → List (List Int) → Prop
  | zero : Runs p seen from_ nl ni 0 0 (List.replicate nl 0) []
  | succ {n : Nat} {year : Int} {sums : List Int} {outs : List (List Int)} {f t d : Int} {k m : Nat} {yrs : List Am} {vs : List Int} (h : Runs p seen from_ nl ni n year sums outs) (ha : Cal.AtIs p.K p.A p.L (from_ + n) f t 0) (hc : Cal.IsCivil f k m d) (hy : YrsOf p.lns (sumsAt year k nl sums) nl yrs) (hb : BindIs p.lns (knAt p f seen ni yrs) 0 0) (hv : linesV p.lns (knAt p f seen ni yrs) nl = (vs, true)) : Runs p seen from_ nl ni (n + 1) (2000 + k) (addK (sumsAt year k nl sums) vs nl) (outs ++ [vs])
theorem bind_ok {l : List Ln} {k : Kn} (h : BindIs l k 0 0) : linesE l = 0 ∧ knE k = 0 ∧ ∀ j, j < l.length → lineOk l k j = 0 := by
  rcases h with ⟨q1, _, q2⟩ | ⟨_, q1, _, q2⟩ | ⟨q1, q2, ⟨_, _, q3⟩ | ⟨_, _, _, _, q, _⟩⟩
  · exact absurd q2.symm q1
  · exact absurd q2.symm q1
  · exact ⟨q1, q2, q3⟩
  · exact absurd rfl q
theorem sumsAt_len {year : Int} {k nl : Nat} {sums : List Int} (h : sums.length = nl) : (sumsAt year k nl sums).length = nl := by
  unfold sumsAt
  split
  · exact h
  · simp
theorem Runs.good {p : Pl} {seen from_ : Int} {nl ni n : Nat} {year : Int} {sums : List Int} {outs : List (List Int)} (h : Runs p seen from_ nl ni n year sums outs) (h1 : p.lns.length = nl) : sums.length = nl ∧ outs.length = n ∧ ∀ j, j < nl → -(1000000000000 * (n : Int)) ≤ nth sums j ∧ nth sums j ≤ 1000000000000 * (n : Int) := by
  induction h with
  | zero => exact ⟨by simp, rfl, fun j hj => by rw [nth_replicate]; omega⟩
  | @succ n year sums outs f t d k m yrs vs h ha hc hy hb hv ih =>
    obtain ⟨i1, i2, i3⟩ := ih
    obtain ⟨q1, q2, q3⟩ := bind_ok hb
    obtain ⟨v1, v2⟩ := linesV_ok q1 q3 q2 nl (by omega) vs hv
    have hs := sumsAt_len (year := year) (k := k) i1
    refine ⟨by rw [addK_len]; exact hs, by simp [i2], fun j hj => ?_⟩
    rw [addK_at _ _ j (by omega), if_pos hj]
    have b1 : -1000000000000 ≤ nth vs j ∧ nth vs j ≤ 1000000000000 := monB_iff.1 (v2.2.2.2.2.2.2 j (by omega))
    have b2 : -(1000000000000 * (n : Int)) ≤ nth (sumsAt year k nl sums) j ∧ nth (sumsAt year k nl sums) j ≤ 1000000000000 * (n : Int) := by
      unfold sumsAt
      split
      · exact i3 j hj
      · rw [nth_replicate]; omega
    have e : ((n + 1 : Nat) : Int) = (n : Int) + 1 := by omega
    rw [e]
    omega
end Go.Proofs.YtonceehdmnkffaaGreatDoor
namespace Go.Proofs.YtonceehdmnkffaaGreatDoor
open Go.RowKit Go.Sort

theorem RkAt.blk {w w' : World} {rb : Nat} {p : Pl} {al at' ai : Option Addr} {nl nt ni cl ct ci : Nat} {seen year : Int} {v : Value} (h : RkAt w rb p al at' ai nl nt ni cl ct ci seen year v) (hb : w'.heap[rb]? = w.heap[rb]?) (hs : w.heap.size ≤ w'.heap.size) : RkAt w' rb p al at' ai nl nt ni cl ct ci seen year v := by
  have ec : ∀ k, w'.cell? ⟨rb, k, none⟩ = w.cell? ⟨rb, k, none⟩ := fun k => World.cell?_of_block (w := w) (a := ⟨rb, k, none⟩) hb
  have ef : ∀ k, w'.frozen? ⟨rb, k, none⟩ = w.frozen? ⟨rb, k, none⟩ := fun k => World.frozen?_of_block (w := w) (a := ⟨rb, k, none⟩) hb
  obtain ⟨⟨h0, h1, h2, h3, h4, h5, h6⟩, hS, hy, hv, hfy, hfv⟩ := h
  exact ⟨⟨Nat.lt_of_lt_of_le h0 hs, (ec 0).trans h1, (ec 1).trans h2, (ec 2).trans h3, (ec 3).trans h4, (ec 4).trans h5, (ec 5).trans h6⟩, (ec 6).trans hS, (ec 7).trans hy, (ec 8).trans hv, (ef 7).trans hfy, (ef 8).trans hfv⟩
theorem own_blk {w w' : World} {g : Nat} {l : List Int} (h : Own w g l) (hb : w'.heap[g]? = w.heap[g]?) (hs : w.heap.size ≤ w'.heap.size) : Own w' g l :=
  ⟨Nat.lt_of_lt_of_le h.1 hs, fun j hj => ⟨(World.cell?_of_block (w := w) (a := ⟨g, j, none⟩) hb).trans (h.2 j hj).1, (World.frozen?_of_block (w := w) (a := ⟨g, j, none⟩) hb).trans (h.2 j hj).2⟩⟩
theorem grow_mono {w : World} {B B' : Nat} {v : Value} {l : List Int} (h : Grow w B v l) (hB : B' ≤ B) : Grow w B' v l := by
  obtain ⟨q1, q2⟩ := h
  refine ⟨q1, q2.imp id ?_⟩
  rintro ⟨g, cap, cur, e1, e2, r⟩
  exact ⟨g, cap, cur, e1, by omega, r⟩
def rowN (l : List Value) (j : Nat) : Value := l.getD j (.slice none 0 0)
def outN (l : List (List Int)) (j : Nat) : List Int := l.getD j []
/-- How things stand when some periods are past. -/
structure FrAt (W0 : World) (rb : Nat) (p : Pl) (al at' ai : Option Addr) (nl nt ni cl ct ci : Nat) (seen year : Int) (v : Value) (sums : List Int) (all : Value) (rows : List Value) (outs : List (List Int)) (w : World) : Prop where
  rk : RkAt w rb p al at' ai nl nt ni cl ct ci seen year v
  sm : year = 0 ∨ SumsAt w W0.heap.size rb nl v sums
  al : GrowR w W0.heap.size all rows
  rl : rows.length = outs.length
  rw : ∀ j, j < rows.length → Grow w W0.heap.size (rowN rows j) (outN outs j)
  na : ∀ b, all.ownBlock = some b → b ≠ rb ∧ v.ownBlock ≠ some b
  nr : ∀ j, j < rows.length → ∀ b, (rowN rows j).ownBlock = some b → b ≠ rb ∧ v.ownBlock ≠ some b ∧ all.ownBlock ≠ some b
  be : Below W0.heap.size W0 w
theorem FrAt.below {W0 : World} {rb : Nat} {p : Pl} {al at' ai : Option Addr} {nl nt ni cl ct ci : Nat} {seen year : Int} {v : Value} {sums : List Int} {all : Value} {rows : List Value} {outs : List (List Int)} {w w' : World} (h : FrAt W0 rb p al at' ai nl nt ni cl ct ci seen year v sums all rows outs w) (hb : Below w.heap.size w w') : FrAt W0 rb p al at' ai nl nt ni cl ct ci seen year v sums all rows outs w' where
  rk := h.rk.below hb h.rk.pb.1
  sm := h.sm.imp id fun ⟨g, h1, h2, h3⟩ => ⟨g, h1, own_blk h2 (hb.block g h2.1) hb.size, h3⟩
  al := h.al.keep fun k hk => hb.block k (h.al.lt k hk).2
  rl := h.rl
  rw := fun j hj => grow_keep (h.rw j hj) fun k hk => hb.block k (Grow.lt (h.rw j hj) k hk).2
  na := h.na
  nr := h.nr
  be := h.be.trans (hb.mono h.be.size)
theorem FrAt.step {W0 : World} {rb : Nat} {p : Pl} {al at' ai : Option Addr} {nl nt ni cl ct ci : Nat} {seen year year' : Int} {v : Value} {sums sums' : List Int} {all : Value} {rows : List Value} {outs : List (List Int)} {w w' : World} {g : Nat} (h : FrAt W0 rb p al at' ai nl nt ni cl ct ci seen year v sums all rows outs w) (hr : RkAt w' rb p al at' ai nl nt ni cl ct ci seen year' (.slice (some ⟨g, 0, none⟩) nl nl)) (ho : Own w' g sums') (h1 : W0.heap.size ≤ g) (h2 : g ≠ rb) (h3 : v = .slice (some ⟨g, 0, none⟩) nl nl ∨ w.heap.size ≤ g) (hf : ∀ j, j < w.heap.size → j ≠ rb → j ≠ g → w'.heap[j]? = w.heap[j]?) (hb : Below W0.heap.size W0 w') : FrAt W0 rb p al at' ai nl nt ni cl ct ci seen year' (.slice (some ⟨g, 0, none⟩) nl nl) sums' all rows outs w' := by
  have ne : ∀ b, b < w.heap.size → v.ownBlock ≠ some b → b ≠ g := fun b hb hv e => by
    subst e
    rcases h3 with rfl | h3
    · exact hv rfl
    · omega
  have own : ∀ b, b ≠ g → (Value.slice (some ⟨g, 0, none⟩) nl nl).ownBlock ≠ some b := fun b hb e => by
    injection e with e
    exact hb e.symm
  exact {
    rk := hr
    sm := .inr ⟨g, rfl, ho, h1, h2⟩
    al := h.al.keep fun k hk => hf k (h.al.lt k hk).2 (h.na k hk).1 (ne k (h.al.lt k hk).2 (h.na k hk).2)
    rl := h.rl
    rw := fun j hj => grow_keep (h.rw j hj) fun k hk => hf k (Grow.lt (h.rw j hj) k hk).2 (h.nr j hj k hk).1 (ne k (Grow.lt (h.rw j hj) k hk).2 (h.nr j hj k hk).2.1)
    na := fun b hb => ⟨(h.na b hb).1, own b (ne b (h.al.lt b hb).2 (h.na b hb).2)⟩
    nr := fun j hj b hb => ⟨(h.nr j hj b hb).1, own b (ne b (Grow.lt (h.rw j hj) b hb).2 (h.nr j hj b hb).2.1), (h.nr j hj b hb).2.2⟩
    be := hb }
theorem rowN_old {l : List Value} {u : Value} {j : Nat} (h : j < l.length) : rowN (l ++ [u]) j = rowN l j := by simp [rowN, List.getD_eq_getElem?_getD, List.getElem?_append_left h]
theorem rowN_new {l : List Value} {u : Value} : rowN (l ++ [u]) l.length = u := by simp [rowN, List.getD_eq_getElem?_getD]
theorem outN_old {l : List (List Int)} {u : List Int} {j : Nat} (h : j < l.length) : outN (l ++ [u]) j = outN l j := by simp [outN, List.getD_eq_getElem?_getD, List.getElem?_append_left h]
theorem outN_new {l : List (List Int)} {u : List Int} : outN (l ++ [u]) l.length = u := by simp [outN, List.getD_eq_getElem?_getD]
theorem FrAt.app {W0 : World} {rb : Nat} {p : Pl} {al at' ai : Option Addr} {nl nt ni cl ct ci : Nat} {seen year : Int} {v : Value} {sums : List Int} {all all' rv : Value} {rows : List Value} {outs : List (List Int)} {vs : List Int} {w w' : World} {B : Nat} (h : FrAt W0 rb p al at' ai nl nt ni cl ct ci seen year v sums all rows outs w) (hv : ∀ b, v.ownBlock = some b → b < w.heap.size) (hg : Grow w B rv vs) (hB : W0.heap.size ≤ B) (hn : ∀ b, rv.ownBlock = some b → b ≠ rb ∧ v.ownBlock ≠ some b ∧ all.ownBlock ≠ some b) (ha : GrowR w' W0.heap.size all' (rows ++ [rv])) (hgr : w.grownBy w' all.ownBlock) (hbl : Below W0.heap.size w w') (ho : all'.ownBlock = all.ownBlock ∨ all'.ownBlock = some w.heap.size) : FrAt W0 rb p al at' ai nl nt ni cl ct ci seen year v sums all' (rows ++ [rv]) (outs ++ [vs]) w' := by
  have blk : ∀ b, b < w.heap.size → all.ownBlock ≠ some b → w'.heap[b]? = w.heap[b]? := fun b hb hne => hgr.block b hb (fun e => hne e.symm)
  have far : ∀ b, b < w.heap.size → all.ownBlock ≠ some b → all'.ownBlock ≠ some b := fun b hb hne e => by
    rcases ho with ho | ho
    · exact hne (ho ▸ e)
    · rw [ho] at e; injection e with e; omega
  refine ⟨h.rk.blk (blk rb h.rk.pb.1 (fun e => (h.na rb e).1 rfl)) hgr.size, ?_, ha, by simp [h.rl], ?_, ?_, ?_, h.be.trans hbl⟩
  · refine h.sm.imp id ?_
    rintro ⟨g, rfl, h2, h3⟩
    exact ⟨g, rfl, own_blk h2 (blk g h2.1 (fun e => (h.na g e).2 rfl)) hgr.size, h3⟩
  · intro j hj
    by_cases hlt : j < rows.length
    · rw [rowN_old hlt, outN_old (by rw [← h.rl]; exact hlt)]
      exact grow_keep (h.rw j hlt) fun k hk => blk k (Grow.lt (h.rw j hlt) k hk).2 (h.nr j hlt k hk).2.2
    · obtain rfl : j = rows.length := by simp at hj; omega
      rw [rowN_new, h.rl, outN_new]
      exact grow_mono (grow_keep hg fun k hk => blk k (Grow.lt hg k hk).2 (hn k hk).2.2) hB
  · intro b hb
    rcases ho with ho | ho
    · exact h.na b (ho ▸ hb)
    · rw [ho] at hb
      injection hb with hb
      subst hb
      exact ⟨by have := h.rk.pb.1; omega, fun e => by have := hv _ e; omega⟩
  · intro j hj b hb
    by_cases hlt : j < rows.length
    · rw [rowN_old hlt] at hb
      exact ⟨(h.nr j hlt b hb).1, (h.nr j hlt b hb).2.1, far b (Grow.lt (h.rw j hlt) b hb).2 (h.nr j hlt b hb).2.2⟩
    · obtain rfl : j = rows.length := by simp at hj; omega
      rw [rowN_new] at hb
      exact ⟨(hn b hb).1, (hn b hb).2.1, far b (Grow.lt hg b hb).2 (hn b hb).2.2⟩
end Go.Proofs.YtonceehdmnkffaaGreatDoor
set_option linter.unusedSimpArgs false
namespace Go.Proofs.YtonceehdmnkffaaGreatDoor
open Go.RowKit Go.Sort

/-- Is a history known at a day? -/
def inS (l : List Hst.Rw) (d s : Int) : Bool := if Hst.dayE l [d, s] = 0 then Hst.atS (Hst.best l d s l.length) else false
theorem inS_of {l : List Hst.Rw} {d s v er : Int} {b : Bool} (h : Hst.AtIs l d s v b er) : b = inS l d s := by
  unfold inS
  rcases h with ⟨h1, _, h2, _⟩ | ⟨h1, _, h2, _⟩
  · rw [if_neg h1, h2]
  · rw [if_pos h1, h2]
/-- Is a history known otherwise? -/
def othB (l : List Hst.Rw) (day was is : Int) : Bool := (inV l day was != inV l day is) || (inS l day was != inS l day is)
/-- Is one of the first k inputs? -/
def difN (l : List In) (day was is : Int) : Nat → Bool
  | 0 => false
  | k + 1 => difN l day was is k || othB (inth l k).rows day was is
theorem difN_some {l : List In} {day was is : Int} {k : Nat} (h : othB (inth l k).rows day was is = true) : ∀ n, k < n → difN l day was is n = true
  | 0, hn => by omega
  | n + 1, hn => by
    rw [difN]
    by_cases e : k = n
    · subst e; rw [h, Bool.or_true]
    · rw [difN_some h n (by omega), Bool.true_or]
set_option maxRecDepth 100000 in
set_option maxHeartbeats 2000000 in
theorem differ_any (ai : Option Addr) (ni ci : Nat) (l : List In) (day was is : Int) (w : World) (hc : CameI w ai l) (h3 : l.length = ni) (hni : ni ≤ 30) :
    Calls Tryz.prog 42 #[.slice ai ni ci, .int .i64 day, .int .i64 was, .int .i64 is] w fun e w' => e = .returned (.bool (difN l day was is ni)) ∧ Below w.heap.size w w' := by
  have HO := Lib.hid (fun h0 => hc.open h3 h0)
  clear hc h3
  go_enter Tryz.func42, Tryz.ntmps42
  go_wp2_with fail
  go_loopw [19] (fun i wr => ∃ k : Nat, k ≤ ni ∧ i = .int .i64 k ∧ difN l day was is k = false ∧ Below w.heap.size w wr) (fun i _ => ni - (intOf i).toNat)
  case atStart => exact ⟨0, Nat.zero_le _, rfl, rfl, Below.refl _ _⟩
  case round =>
    obtain ⟨k, hk, rfl, hdf, hb⟩ := hrel
    have HD := Lib.hid hdf
    have HB := Lib.hid hb
    clear hdf hb
    by_cases hlt : k < ni
    · have hlt' : (k : Int) < (ni : Int) := by omega
      obtain ⟨b, off, rfl, hcell⟩ := HO.out (by omega)
      obtain ⟨aj, cj, y0, y1, hcr, hns, hrm⟩ := hcell wr HB.out k hlt
      obtain ⟨nm, hnm⟩ : ∃ nm, (inth l k).name = nm := ⟨_, rfl⟩
      obtain ⟨rs, hrs⟩ : ∃ rs, (inth l k).rows = rs := ⟨_, rfl⟩
      rw [hnm] at y0
      rw [hrs] at y1 hcr hrm
      obtain ⟨m, hm⟩ : ∃ m, rs.length = m := ⟨_, rfl⟩
      rw [hm] at y1 hrm
      have HRS := Lib.hid hrs
      have HRN := Lib.hid hm
      have HCR := Lib.hid hcr
      have HRM := Lib.hid hrm
      have HBI := Lib.hid (kbelow_box wr (.cells #[.string nm, .slice aj m cj] 47))
      have HIB := Lib.hid (IBox.made wr nm (.slice aj m cj))
      clear hcell hns hnm hrs hm hcr hrm
      go_wp2_with fail
      refine (Hst.At_any aj m cj rs day was _ (HCR.out.below HBI.out) HRN.out HRM.out).mono ?_
      rintro e w4 ⟨v4, b4, e4, rfl, hat4, hb4⟩
      have HB4' := Lib.hid (HBI.out.trans (hb4.mono HBI.out.size))
      have HI4 := Lib.hid (HIB.out.below hb4)
      have HV4 := Lib.hid (inV_of hat4)
      have HS4 := Lib.hid (inS_of hat4)
      obtain ⟨_, i0, i1⟩ := HI4.out
      clear hat4 hb4 HBI HIB y0 y1
      go_wp2_with fail
      refine (Hst.At_any aj m cj rs day is _ (HCR.out.below HB4'.out) HRN.out HRM.out).mono ?_
      rintro e w5 ⟨v5, b5, e5, rfl, hat5, hb5⟩
      have HB5 := Lib.hid (HB.out.trans ((HB4'.out.trans (hb5.mono HB4'.out.size)).mono HB.out.size))
      have HV5 := Lib.hid (inV_of hat5)
      have HS5 := Lib.hid (inS_of hat5)
      have HOT : Hid (othB (inth l k).rows day was is = ((v4 != v5) || (b4 != b5))) := Lib.hid (by rw [HRS.out]; unfold othB; rw [← HV4.out, ← HV5.out, ← HS4.out, ← HS5.out])
      clear hat5 hb5 i0 i1
      cases hc1 : (v4 != v5)
      · cases b4 <;> cases b5
        · have HN : Hid (difN l day was is (k + 1) = false) := Lib.hid (by rw [difN, HD.out, HOT.out, hc1]; rfl)
          go_wp2_with fail
          go_roundw
          case rel => exact ⟨k + 1, by omega, by go_num, HN.out, HB5.out⟩
          case measure => simp [intOf]; omega
        · have HN : Hid (difN l day was is ni = true) := Lib.hid (difN_some (by rw [HOT.out, hc1]; rfl) ni hlt)
          go_wp2_with fail
          go_ret
          exact ⟨kret_bool HN.out.symm, HB5.out⟩
        · have HN : Hid (difN l day was is ni = true) := Lib.hid (difN_some (by rw [HOT.out, hc1]; rfl) ni hlt)
          go_wp2_with fail
          go_ret
          exact ⟨kret_bool HN.out.symm, HB5.out⟩
        · have HN : Hid (difN l day was is (k + 1) = false) := Lib.hid (by rw [difN, HD.out, HOT.out, hc1]; rfl)
          go_wp2_with fail
          go_roundw
          case rel => exact ⟨k + 1, by omega, by go_num, HN.out, HB5.out⟩
          case measure => simp [intOf]; omega
      · have HN : Hid (difN l day was is ni = true) := Lib.hid (difN_some (by rw [HOT.out, hc1]; rfl) ni hlt)
        go_wp2_with fail
        go_ret
        exact ⟨kret_bool HN.out.symm, HB5.out⟩
    · obtain rfl : k = ni := by omega
      have hlt' : decide ((k : Int) < (k : Int)) = false := decide_eq_false (by omega)
      go_wp2_with fail
      go_ret
      exact ⟨kret_bool HD.out.symm, HB.out⟩
end Go.Proofs.YtonceehdmnkffaaGreatDoor
set_option linter.unusedSimpArgs false
namespace Go.Proofs.YtonceehdmnkffaaGreatDoor
open Go.RowKit Go.Sort

/-- The period k is there, and it is not known otherwise. -/
def SameP (p : Pl) (was is : Int) (k : Nat) : Prop := ∃ f t, Cal.AtIs p.K p.A p.L k f t 0 ∧ difN p.ins f was is p.ins.length = false
/-- What First answers. -/
def FirstIs (p : Pl) (was is : Int) (k : Int) (ok : Bool) (er : Int) : Prop :=
  (PlanIs p er ∧ er ≠ 0 ∧ k = 0 ∧ ok = false) ∨
  (PlanIs p 0 ∧ (Cal.dayB was = false ∨ Cal.dayB is = false) ∧ er = 3 ∧ k = 0 ∧ ok = false) ∨
  (PlanIs p 0 ∧ Cal.dayB was = true ∧ Cal.dayB is = true ∧ er = 0 ∧
    ((ok = true ∧ ∃ n : Nat, k = n ∧ n < 5000 ∧ (∀ j, j < n → SameP p was is j) ∧ ∃ f t, Cal.AtIs p.K p.A p.L n f t 0 ∧ difN p.ins f was is p.ins.length = true) ∨
     (ok = false ∧ k = 0 ∧ ∃ n : Nat, n ≤ 5000 ∧ (∀ j, j < n → SameP p was is j) ∧ (n = 5000 ∨ ∃ f t e, e ≠ 0 ∧ Cal.AtIs p.K p.A p.L n f t e))))
theorem PlanIs.small {p : Pl} (h : PlanIs p 0) : p.lns.length ≤ 30 ∧ p.ins.length ≤ 30 := by
  rcases h with ⟨h, h'⟩ | ⟨_, h, h'⟩ | ⟨_, _, _, h'⟩ | ⟨_, _, h1, h2, _⟩ | ⟨_, _, h1, h2, _⟩
  · exact absurd h'.symm h
  · exact absurd h'.symm h
  · cases h'
  · exact ⟨h1, h2⟩
  · exact ⟨h1, h2⟩
set_option maxRecDepth 100000 in
set_option maxHeartbeats 2000000 in
theorem First_any (p : Pl) (al at' ai : Option Addr) (nl nt ni cl ct ci : Nat) (was is : Int) (w : World) (hS : Shp w) (hc : CameP w al at' ai p) (h1 : p.lns.length = nl) (h2 : p.tbs.length = nt) (h3 : p.ins.length = ni) :
    Calls Tryz.prog 16 #[.agg #[.int .i64 p.K, .int .i64 p.A, .int .i64 p.L, .slice al nl cl, .slice at' nt ct, .slice ai ni ci], .int .i64 was, .int .i64 is] w fun e w' => ∃ (k : Int) (ok : Bool) (er : Int), e = .returned (.tuple #[.int .i64 k, .bool ok, .int .i64 er]) ∧ FirstIs p was is k ok er ∧ Below w.heap.size w w' := by
  have HB0 := Lib.hid (kbelow_box w (.cells #[.int .i64 p.K, .int .i64 p.A, .int .i64 p.L, .slice al nl cl, .slice at' nt ct, .slice ai ni ci] 28))
  have HP0 := Lib.hid (PBox.made w p.K p.A p.L al at' ai nl nt ni cl ct ci)
  have HCK := Lib.hid (Check_plan p al at' ai nl nt ni cl ct ci _ (hS.below HB0.out) (hc.below HB0.out) h1 h2 h3)
  have HC := Lib.hid hc
  have H3 := Lib.hid h3
  clear hS hc h1 h2 h3
  obtain ⟨_, x0, x1, x2, x3, x4, x5⟩ := HP0.out
  go_enter Tryz.func16, Tryz.ntmps16
  go_wp2_with fail
  refine HCK.out.mono ?_
  rintro e w1 ⟨er, rfl, hpl, hb1⟩
  have HPL := Lib.hid hpl
  have HB1 := Lib.hid (HB0.out.trans (hb1.mono HB0.out.size))
  have HP1 := Lib.hid (HP0.out.below hb1 HP0.out.1)
  clear hpl hb1 HP0 HB0 HCK x0 x1 x2 x3 x4 x5
  by_cases h0 : er = 0
  · subst h0
    have hsm := HPL.out.small
    rw [H3.out] at hsm
    have hni : ni ≤ 30 := hsm.2
    clear hsm
    cases hw : Cal.dayB was
    · go_wp2_with (go_at_call 36; refine (Cal.isDay_any _ _).mono ?_; rintro e w' ⟨rfl, h'⟩; subst w')
      refine bodyPost_ret (v := .tuple #[.int .i64 0, .bool false, .int .i64 3]) (by simp [results, Tryz.results16, go_sem] <;> rfl) rfl ?_
      exact ⟨_, _, _, rfl, .inr (.inl ⟨HPL.out, .inl hw, rfl, rfl, rfl⟩), HB1.out⟩
    · cases hi : Cal.dayB is
      · go_wp2_with (go_at_call 36; refine (Cal.isDay_any _ _).mono ?_; rintro e w' ⟨rfl, h'⟩; subst w')
        refine bodyPost_ret (v := .tuple #[.int .i64 0, .bool false, .int .i64 3]) (by simp [results, Tryz.results16, go_sem] <;> rfl) rfl ?_
        exact ⟨_, _, _, rfl, .inr (.inl ⟨HPL.out, .inr hi, rfl, rfl, rfl⟩), HB1.out⟩
      · go_wp2_with (go_at_call 36; refine (Cal.isDay_any _ _).mono ?_; rintro e w' ⟨rfl, h'⟩; subst w')
        go_loopw [26] (fun i wr => ∃ k : Nat, k ≤ 5000 ∧ i = .int .i64 k ∧ (∀ j, j < k → SameP p was is j) ∧ PBox wr w.heap.size p.K p.A p.L al at' ai nl nt ni cl ct ci ∧ Below w.heap.size w wr) (fun i _ => 5000 - (intOf i).toNat)
        case atStart => exact ⟨0, Nat.zero_le _, rfl, fun j hj => by omega, HP1.out, HB1.out⟩
        case round =>
          clear HP1 HB1
          obtain ⟨k, hk, rfl, hsame, hpb, hb⟩ := hrel
          have HSM := Lib.hid hsame
          have HP := Lib.hid hpb
          have HB := Lib.hid hb
          clear hsame hpb hb
          by_cases hlt : k < 5000
          · have hlt' : (k : Int) < 5000 := by omega
            obtain ⟨_, x0, x1, x2, x3, x4, x5⟩ := HP.out
            go_wp2_with fail
            refine (Cal.At_any p.K p.A p.L k _).mono ?_
            rintro e w5 ⟨f, t, e5, rfl, hat, hb5⟩
            have HAT := Lib.hid hat
            have HBX := Lib.hid (hb5.trans ((kbelow_box w5 (.cells #[.int .i64 f, .int .i64 t] 42)).mono hb5.size))
            have HB6 := Lib.hid (HB.out.trans (HBX.out.mono HB.out.size))
            have HP6 := Lib.hid (HP.out.below HBX.out HP.out.1)
            have p0 : (w5.alloc (.cells #[.int .i64 f, .int .i64 t] 42)).cell? ⟨w5.heap.size, 0, none⟩ = some (.int .i64 f) := by simp
            clear hat hb5 x0 x1 x2 x3 x4 x5
            by_cases he : e5 = 0
            · subst he
              obtain ⟨_, x0, x1, x2, x3, x4, x5⟩ := HP6.out
              go_wp2_with fail
              generalize (w5.alloc (.cells #[.int .i64 f, .int .i64 t] 42)) = w6 at *
              refine (differ_any ai ni ci p.ins f was is w6 (HC.out.i.below HB6.out) H3.out hni).mono ?_
              rintro e w7 ⟨rfl, hb7⟩
              have HB7 := Lib.hid (HB6.out.trans (hb7.mono HB6.out.size))
              have HP7 := Lib.hid (HP6.out.below hb7 HP6.out.1)
              clear hb7 x0 x1 x2 x3 x4 x5
              cases hdf : difN p.ins f was is ni
              · have HDF := Lib.hid hdf
                clear hdf
                go_wp2_with fail
                go_roundw
                case rel =>
                  refine ⟨k + 1, by omega, by go_num, fun j hj => ?_, HP7.out, HB7.out⟩
                  by_cases e : j = k
                  · subst e; exact ⟨f, t, HAT.out, by rw [H3.out]; exact HDF.out⟩
                  · exact HSM.out j (by omega)
                case measure => simp [intOf]; omega
              · have HDF := Lib.hid hdf
                clear hdf
                go_wp2_with fail
                refine bodyPost_ret (v := .tuple #[.int .i64 (k : Int), .bool true, .int .i64 0]) (by simp [results, Tryz.results16, go_sem] <;> rfl) rfl ?_
                exact ⟨_, _, _, rfl, .inr (.inr ⟨HPL.out, hw, hi, rfl, .inl ⟨rfl, k, rfl, hlt, HSM.out, f, t, HAT.out, by rw [H3.out]; exact HDF.out⟩⟩), HB7.out⟩
            · have he' : decide (e5 = 0) = false := decide_eq_false he
              have he2 : (e5 != 0) = true := by simp [he]
              have HE := Lib.hid he
              clear he
              go_wp2_with fail
              refine bodyPost_ret (v := .tuple #[.int .i64 0, .bool false, .int .i64 0]) (by simp [results, Tryz.results16, go_sem] <;> rfl) rfl ?_
              exact ⟨_, _, _, rfl, .inr (.inr ⟨HPL.out, hw, hi, rfl, .inr ⟨rfl, rfl, k, hk, HSM.out, .inr ⟨f, t, e5, HE.out, HAT.out⟩⟩⟩), HB6.out⟩
          · obtain rfl : k = 5000 := by omega
            go_wp2_with fail
            refine bodyPost_ret (v := .tuple #[.int .i64 0, .bool false, .int .i64 0]) (by simp [results, Tryz.results16, go_sem] <;> rfl) rfl ?_
            exact ⟨_, _, _, rfl, .inr (.inr ⟨HPL.out, hw, hi, rfl, .inr ⟨rfl, rfl, 5000, Nat.le_refl _, HSM.out, .inl rfl⟩⟩), HB.out⟩
  · have h0' : decide (er = 0) = false := decide_eq_false h0
    have h0'' : (er != 0) = true := by simp [h0]
    have HNE := Lib.hid h0
    clear h0
    go_wp2_with fail
    refine bodyPost_ret (v := .tuple #[.int .i64 0, .bool false, .int .i64 er]) (by simp [results, Tryz.results16, go_sem] <;> rfl) rfl ?_
    exact ⟨_, _, _, rfl, .inl ⟨HPL.out, HNE.out, rfl, rfl⟩, HB1.out⟩
end Go.Proofs.YtonceehdmnkffaaGreatDoor
set_option linter.unusedSimpArgs false
namespace Go.Proofs.YtonceehdmnkffaaGreatDoor
open Go.RowKit Go.Sort

/-- May Fresh be asked so? -/
def AskOk (frm to seen : Int) : Prop := Cal.dayB seen = true ∧ 0 ≤ frm ∧ frm ≤ to
/-- Which error Fresh answers. -/
def FreshE (p : Pl) (frm to seen : Int) (nl ni : Nat) (er : Int) : Prop :=
  PlanIs p er ∨ (PlanIs p 0 ∧ ((¬ AskOk frm to seen ∧ er = 3) ∨ (AskOk frm to seen ∧ 60 ≤ to - frm ∧ er = 2) ∨
    (AskOk frm to seen ∧ to - frm < 60 ∧ ∃ (n : Nat) (year : Int) (sums : List Int) (outs : List (List Int)), frm + n ≤ to ∧ Runs p seen frm nl ni n year sums outs ∧
      ((∃ f t, Cal.AtIs p.K p.A p.L (frm + n) f t er) ∨ ∃ (f t d : Int) (k m : Nat) (yrs : List Am), Cal.AtIs p.K p.A p.L (frm + n) f t 0 ∧ Cal.IsCivil f k m d ∧ YrsOf p.lns (sumsAt year k nl sums) nl yrs ∧ ((∃ i, BindIs p.lns (knAt p f seen ni yrs) i er) ∨ (BindIs p.lns (knAt p f seen ni yrs) 0 0 ∧ er = 3 ∧ ∃ vs, linesV p.lns (knAt p f seen ni yrs) nl = (vs, false)))))))
/-- What Fresh answers. -/
def FreshR (p : Pl) (frm to seen : Int) (nl ni : Nat) (w : World) (rv : Value) (er : Int) (w' : World) : Prop :=
  (er ≠ 0 ∧ rv = .slice none 0 0 ∧ FreshE p frm to seen nl ni er) ∨
  (er = 0 ∧ PlanIs p 0 ∧ AskOk frm to seen ∧ to - frm < 60 ∧ ∃ (n : Nat) (year : Int) (sums : List Int) (outs : List (List Int)) (rows : List Value) (B : Nat), frm + n = to + 1 ∧ Runs p seen frm nl ni n year sums outs ∧ w.heap.size ≤ B ∧ GrowR w' B rv rows ∧ rows.length = outs.length ∧ ∀ j, j < rows.length → Grow w' B (rowN rows j) (outN outs j))
theorem RkAt.made (w : World) (p : Pl) (al at' ai : Option Addr) (nl nt ni cl ct ci : Nat) (seen : Int) : RkAt (w.alloc (.cells #[.int .i64 p.K, .int .i64 p.A, .int .i64 p.L, .slice al nl cl, .slice at' nt ct, .slice ai ni ci, .int .i64 seen, .int .i64 0, .slice none 0 0] 77)) w.heap.size p al at' ai nl nt ni cl ct ci seen 0 (.slice none 0 0) := by
  refine ⟨⟨?_, ?_, ?_, ?_, ?_, ?_, ?_⟩, ?_, ?_, ?_, ?_, ?_⟩ <;> simp
theorem nth_past {l : List Int} {j : Nat} (h : l.length ≤ j) : nth l j = 0 := by simp [nth, List.getD_eq_getElem?_getD, List.getElem?_eq_none h]
set_option maxRecDepth 100000 in
set_option maxHeartbeats 4000000 in
theorem Fresh_any (p : Pl) (al at' ai : Option Addr) (nl nt ni cl ct ci : Nat) (frm to seen : Int) (w : World) (hS : Shp w) (hc : CameP w al at' ai p) (h1 : p.lns.length = nl) (h2 : p.tbs.length = nt) (h3 : p.ins.length = ni) (hto : to ≤ 9223372036854775807) :
    Calls Tryz.prog 13 #[.agg #[.int .i64 p.K, .int .i64 p.A, .int .i64 p.L, .slice al nl cl, .slice at' nt ct, .slice ai ni ci], .int .i64 frm, .int .i64 to, .int .i64 seen] w fun e w' => ∃ (rv : Value) (er : Int), e = .returned (.tuple #[rv, .int .i64 er]) ∧ FreshR p frm to seen nl ni w rv er w' ∧ Below w.heap.size w w' := by
  have HB0 := Lib.hid (kbelow_box w (.cells #[.int .i64 p.K, .int .i64 p.A, .int .i64 p.L, .slice al nl cl, .slice at' nt ct, .slice ai ni ci] 28))
  have HP0 := Lib.hid (PBox.made w p.K p.A p.L al at' ai nl nt ni cl ct ci)
  have HCK := Lib.hid (Check_plan p al at' ai nl nt ni cl ct ci _ (hS.below HB0.out) (hc.below HB0.out) h1 h2 h3)
  have HS := Lib.hid hS
  have HC := Lib.hid hc
  have H1 := Lib.hid h1
  have H2 := Lib.hid h2
  have H3 := Lib.hid h3
  clear hS hc h1 h2 h3
  obtain ⟨_, x0, x1, x2, x3, x4, x5⟩ := HP0.out
  go_enter Tryz.func13, Tryz.ntmps13
  go_wp2_with fail
  refine HCK.out.mono ?_
  rintro e w1 ⟨er, rfl, hpl, hb1⟩
  have HPL := Lib.hid hpl
  have HB1 := Lib.hid (HB0.out.trans (hb1.mono HB0.out.size))
  have HP1 := Lib.hid (HP0.out.below hb1 HP0.out.1)
  clear hpl hb1 HP0 HB0 HCK x0 x1 x2 x3 x4 x5
  by_cases h0 : er = 0
  · subst h0
    have hsm := HPL.out.small
    rw [H3.out, H1.out] at hsm
    have hni : ni ≤ 30 := hsm.2
    have hnl : nl ≤ 30 := hsm.1
    clear hsm
    cases hse : Cal.dayB seen
    · go_wp2_with (go_at_call 36; refine (Cal.isDay_any _ _).mono ?_; rintro e w' ⟨rfl, h'⟩; subst w')
      refine bodyPost_ret (v := .tuple #[.slice none 0 0, .int .i64 3]) (by simp [results, Tryz.results13, go_sem] <;> rfl) rfl ?_
      exact ⟨_, _, rfl, .inl ⟨by decide, rfl, .inr ⟨HPL.out, .inl ⟨(fun h => by rw [h.1] at hse; cases hse), rfl⟩⟩⟩, HB1.out⟩
    · by_cases hf : frm < 0
      · go_wp2_with (go_at_call 36; refine (Cal.isDay_any _ _).mono ?_; rintro e w' ⟨rfl, h'⟩; subst w')
        refine bodyPost_ret (v := .tuple #[.slice none 0 0, .int .i64 3]) (by simp [results, Tryz.results13, go_sem] <;> rfl) rfl ?_
        exact ⟨_, _, rfl, .inl ⟨by decide, rfl, .inr ⟨HPL.out, .inl ⟨fun h => by have := h.2.1; omega, rfl⟩⟩⟩, HB1.out⟩
      · have hfB : decide (frm < 0) = false := decide_eq_false hf
        by_cases ht : to < frm
        · go_wp2_with (go_at_call 36; refine (Cal.isDay_any _ _).mono ?_; rintro e w' ⟨rfl, h'⟩; subst w')
          refine bodyPost_ret (v := .tuple #[.slice none 0 0, .int .i64 3]) (by simp [results, Tryz.results13, go_sem] <;> rfl) rfl ?_
          exact ⟨_, _, rfl, .inl ⟨by decide, rfl, .inr ⟨HPL.out, .inl ⟨fun h => by have := h.2.2; omega, rfl⟩⟩⟩, HB1.out⟩
        · have htB : decide (to < frm) = false := decide_eq_false ht
          have HAO : Hid (AskOk frm to seen) := ⟨hse, by omega, by omega⟩
          have s1 : -9223372036854775808 ≤ to - frm := by omega
          have s2 : to - frm ≤ 9223372036854775807 := by omega
          by_cases hm : 60 ≤ to - frm
          · go_wp2_with (go_at_call 36; refine (Cal.isDay_any _ _).mono ?_; rintro e w' ⟨rfl, h'⟩; subst w')
            refine bodyPost_ret (v := .tuple #[.slice none 0 0, .int .i64 2]) (by simp [results, Tryz.results13, go_sem] <;> rfl) rfl ?_
            exact ⟨_, _, rfl, .inl ⟨by decide, rfl, .inr ⟨HPL.out, .inr (.inl ⟨HAO.out, hm, rfl⟩)⟩⟩, HB1.out⟩
          · have hmB : decide (60 ≤ to - frm) = false := decide_eq_false hm
            obtain ⟨_, x0, x1, x2, x3, x4, x5⟩ := HP1.out
            go_wp2_with (go_at_call 36; refine (Cal.isDay_any _ _).mono ?_; rintro e w' ⟨rfl, h'⟩; subst w')
            clear x0 x1 x2 x3 x4 x5
            have HR0 := Lib.hid (RkAt.made w1 p al at' ai nl nt ni cl ct ci seen)
            have HBR := Lib.hid (kbelow_box w1 (.cells #[.int .i64 p.K, .int .i64 p.A, .int .i64 p.L, .slice al nl cl, .slice at' nt ct, .slice ai ni ci, .int .i64 seen, .int .i64 0, .slice none 0 0] 77))
            generalize (w1.alloc (.cells #[.int .i64 p.K, .int .i64 p.A, .int .i64 p.L, .slice al nl cl, .slice at' nt ct, .slice ai ni ci, .int .i64 seen, .int .i64 0, .slice none 0 0] 77)) = wb at *
            have HF0 : Hid (FrAt w1 w1.heap.size p al at' ai nl nt ni cl ct ci seen 0 (.slice none 0 0) (List.replicate nl 0) (.slice none 0 0) [] [] wb) := ⟨HR0.out, .inl rfl, GrowR.nil _ _, rfl, fun j hj => absurd hj (Nat.not_lt_zero _), (fun b hb => by cases hb), fun j hj => absurd hj (Nat.not_lt_zero _), HBR.out⟩
            clear HR0 HBR
            go_loopw [12, 13] (fun all i wr => ∃ (n : Nat) (year : Int) (v : Value) (sums : List Int) (rows : List Value) (outs : List (List Int)), i = .int .i64 (frm + n) ∧ frm + n ≤ to + 1 ∧ Runs p seen frm nl ni n year sums outs ∧ FrAt w1 w1.heap.size p al at' ai nl nt ni cl ct ci seen year v sums all rows outs wr) (fun _ i _ => (to + 1 - intOf i).toNat)
            case atStart => exact ⟨0, 0, _, _, [], [], by simp, by omega, .zero, HF0.out⟩
            case round =>
              clear HF0
              obtain ⟨n, year, v, sums, rows, outs, rfl, hle, hrun, hfr⟩ := hrel
              have HRU := Lib.hid hrun
              have HFR := Lib.hid hfr
              have HGD := Lib.hid (hrun.good H1.out)
              have HP := Lib.hid (HP1.out.below hfr.be HP1.out.1)
              have HBW := Lib.hid (HB1.out.trans (hfr.be.mono HB1.out.size))
              clear hrun hfr
              by_cases hlt : frm + n ≤ to
              · have hn59 : n ≤ 59 := by omega
                obtain ⟨_, x0, x1, x2, x3, x4, x5⟩ := HP.out
                go_wp2_with fail
                refine (Cal.At_any p.K p.A p.L (frm + n) _).mono ?_
                rintro e w5 ⟨f, t, e5, rfl, hat, hb5⟩
                have HAT := Lib.hid hat
                have HBX := Lib.hid (hb5.trans ((kbelow_box w5 (.cells #[.int .i64 f, .int .i64 t] 42)).mono hb5.size))
                have HB6 := Lib.hid (HBW.out.trans (HBX.out.mono HBW.out.size))
                have HF6 := Lib.hid (HFR.out.below HBX.out)
                have p0 : (w5.alloc (.cells #[.int .i64 f, .int .i64 t] 42)).cell? ⟨w5.heap.size, 0, none⟩ = some (.int .i64 f) := by simp
                clear hat hb5 x0 x1 x2 x3 x4 x5
                by_cases he : e5 = 0
                · subst he
                  go_wp2_with fail
                  generalize (w5.alloc (.cells #[.int .i64 f, .int .i64 t] 42)) = w6 at *
                  have hday := at_day HAT.out
                  have hbd : ∀ j, -59000000000000 ≤ nth sums j ∧ nth sums j ≤ 59000000000000 := fun j => by
                    by_cases hj : j < nl
                    · have := HGD.out.2.2 j hj; omega
                    · rw [nth_past (by rw [HGD.out.1]; omega)]; omega
                  refine (reckon_any w1 w1.heap.size p al at' ai nl nt ni cl ct ci seen year f v sums w6 (HS.out.below HB1.out) (HC.out.below HB1.out) H1.out H2.out H3.out hnl hni HF6.out.be (Nat.le_refl _) HF6.out.rk hday.1 HF6.out.sm HGD.out.1 hbd).mono ?_
                  clear hbd
                  rintro e w7 ⟨k, m, d, yrs, hciv, hpm, hsr, hb7, ⟨er, hne, rfl, hbe⟩ | ⟨hbi, vs, rv, B, g, hlv, rfl, hB, hg7, hr7, ho7, hg1, hg2, hgB, hgv, hfm⟩⟩
                  · have HNE := Lib.hid hne
                    have hneB : (er != 0) = true := by simp [hne]
                    have HFE : Hid (FreshE p frm to seen nl ni er) := .inr ⟨HPL.out, .inr (.inr ⟨HAO.out, by omega, n, year, sums, outs, hlt, HRU.out, .inr ⟨f, t, d, k, m, yrs, HAT.out, hciv, ⟨hpm, hsr⟩, hbe⟩⟩)⟩
                    have HB7 := Lib.hid (HB1.out.trans (hb7.mono HB1.out.size))
                    clear hne hbe hpm hsr hciv hb7
                    go_wp2_with fail
                    refine bodyPost_ret (v := .tuple #[.slice none 0 0, .int .i64 er]) (by simp [results, Tryz.results13, go_sem] <;> rfl) rfl ?_
                    exact ⟨_, _, rfl, .inl ⟨HNE.out, rfl, HFE.out⟩, HB7.out⟩
                  · have HRN : Hid (Runs p seen frm nl ni (n + 1) (2000 + k) (addK (sumsAt year k nl sums) vs nl) (outs ++ [vs])) := .succ HRU.out HAT.out hciv ⟨hpm, hsr⟩ hbi hlv
                    have HF7 := Lib.hid (HF6.out.step hr7 ho7 hg1 hg2 hgv hfm hb7)
                    obtain ⟨ra, rc, rfl⟩ := Grow.shape hg7
                    have HG7 := Lib.hid hg7
                    have hg7l := ho7.1
                    have HB7 := Lib.hid (HB1.out.trans (hb7.mono HB1.out.size))
                    have HBY := Lib.hid (kbelow_box w7 (.cells #[.slice ra vs.length rc] 53))
                    have HF8 := Lib.hid (HF7.out.below HBY.out)
                    have c0 : (w7.alloc (.cells #[.slice ra vs.length rc] 53)).cell? ⟨w7.heap.size, 0, none⟩ = some (.slice ra vs.length rc) := by simp
                    have HC0 := Lib.hid c0
                    have hrl : rows.length ≤ 1000 := by rw [HFR.out.rl, HGD.out.2.1]; omega
                    have h6l : w1.heap.size < w6.heap.size := HF6.out.rk.pb.1
                    have HAL : Hid (∀ b, (Value.slice ra vs.length rc).ownBlock = some b → b ≠ w1.heap.size ∧ (Value.slice (some ⟨g, 0, none⟩) nl nl).ownBlock ≠ some b ∧ (∀ av, GrowR w6 w1.heap.size av rows → av.ownBlock ≠ some b)) := fun b hb => by
                      have h1 := (Grow.lt HG7.out b hb).1
                      refine ⟨by omega, (fun e => by have e' : g = b := Option.some.inj e; omega), fun av hav e => ?_⟩
                      have := (hav.lt b e).2
                      omega
                    clear hpm hsr hciv hbi hlv hg7 hr7 ho7 hgv hfm hb7 c0
                    go_wp2_with (first
                      | (at_builtin; refine wpList_app_row _ rfl _ _ rfl w1.heap.size _ rows rfl HF8.out.al w7.heap.size 1 (.slice ra vs.length rc) rfl rfl HC0.out hrl HF8.out.be.size ?_
                         intro v9 w9 hg9 hgr9 hb9 ho9
                         have HF9 := Lib.hid (HF8.out.app (all' := v9) (w' := w9) (fun b hb => by injection hb with hb; rw [← hb]; exact Nat.lt_of_lt_of_le hg7l HBY.out.size) (vgrow_below HG7.out HBY.out) (by omega) (fun b hb => ⟨(HAL.out b hb).1, (HAL.out b hb).2.1, (HAL.out b hb).2.2 _ HF6.out.al⟩) hg9 hgr9 hb9 ho9)
                         clear hg9 hgr9 hb9 ho9))
                    go_roundw
                    case rel => exact ⟨n + 1, _, _, _, _, _, by congr 1; push_cast; omega, by push_cast; omega, HRN.out, HF9.out⟩
                    case measure => simp [intOf]; omega
                · have he2 : (e5 != 0) = true := by simp [he]
                  have he' : decide (e5 = 0) = false := decide_eq_false he
                  have HE := Lib.hid he
                  clear he
                  go_wp2_with fail
                  refine bodyPost_ret (v := .tuple #[.slice none 0 0, .int .i64 e5]) (by simp [results, Tryz.results13, go_sem] <;> rfl) rfl ?_
                  exact ⟨_, _, rfl, .inl ⟨HE.out, rfl, .inr ⟨HPL.out, .inr (.inr ⟨HAO.out, by omega, n, year, sums, outs, hlt, HRU.out, .inl ⟨f, t, HAT.out⟩⟩)⟩⟩, HB6.out⟩
              · have hltB : decide (frm + (n : Int) ≤ to) = false := decide_eq_false hlt
                go_wp2_with fail
                refine bodyPost_ret (v := .tuple #[_, .int .i64 0]) (by simp [results, Tryz.results13, go_sem] <;> rfl) rfl ?_
                exact ⟨_, _, rfl, .inr ⟨rfl, HPL.out, HAO.out, by omega, n, year, sums, outs, rows, w1.heap.size, by omega, HRU.out, HB1.out.size, HFR.out.al, HFR.out.rl, HFR.out.rw⟩, HBW.out⟩
  · have h0' : decide (er = 0) = false := decide_eq_false h0
    have h0'' : (er != 0) = true := by simp [h0]
    have HNE := Lib.hid h0
    clear h0
    go_wp2_with fail
    refine bodyPost_ret (v := .tuple #[.slice none 0 0, .int .i64 er]) (by simp [results, Tryz.results13, go_sem] <;> rfl) rfl ?_
    exact ⟨_, _, rfl, .inl ⟨HNE.out, rfl, .inl HPL.out⟩, HB1.out⟩
end Go.Proofs.YtonceehdmnkffaaGreatDoor
