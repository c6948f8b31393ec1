/-
  Promise N4: what lines come to otherwise: the walk of Delta.
-/
import Derived.Test.YtonceehdmnkffaaGreatDoorJP
import Derived.Deep.RegionHeld3
set_option linter.unusedSimpArgs false
namespace Go.Proofs.YtonceehdmnkffaaGreatDoor
open Go.RowKit Go.Sort

/-- What line i comes to otherwise in the first k periods. -/
def dltN (oa ob : List (List Int)) (i : Nat) : Nat → Int
  | 0 => 0
  | k + 1 => dltN oa ob i k + (nth (outN ob k) i - nth (outN oa k) i)
/-- All lines, those ahead of line i one period further. -/
def dltL (oa ob : List (List Int)) (nl k i : Nat) : List Int := (List.range nl).map fun j => if j < i then dltN oa ob j (k + 1) else dltN oa ob j k
theorem dltL_len (oa ob : List (List Int)) (nl k i : Nat) : (dltL oa ob nl k i).length = nl := by simp [dltL]
theorem dltL_at (oa ob : List (List Int)) {nl k i j : Nat} (h : j < nl) : nth (dltL oa ob nl k i) j = if j < i then dltN oa ob j (k + 1) else dltN oa ob j k := by
  simp [nth, dltL, List.getD_eq_getElem?_getD, h]
theorem dltL_set (oa ob : List (List Int)) {nl k i : Nat} (h : i < nl) : (dltL oa ob nl k i).set i (dltN oa ob i (k + 1)) = dltL oa ob nl k (i + 1) := by
  apply List.ext_getElem?
  intro j
  rw [List.getElem?_set]
  by_cases e : i = j
  · subst e
    simp [dltL, h]
  · rw [if_neg e]
    by_cases q : j < nl
    · simp [dltL, q, show (j < i + 1) = (j < i) by simp; omega]
    · simp [dltL, q]
theorem dltL_next (oa ob : List (List Int)) (nl k : Nat) : dltL oa ob nl k nl = dltL oa ob nl (k + 1) 0 := by
  unfold dltL
  refine List.map_congr_left fun j hj => ?_
  rw [if_pos (List.mem_range.1 hj), if_neg (Nat.not_lt_zero _)]
theorem dltL_zero (oa ob : List (List Int)) (nl : Nat) : dltL oa ob nl 0 0 = List.replicate nl 0 := by
  apply List.ext_getElem?
  intro j
  by_cases q : j < nl
  · simp [dltL, q, dltN]
  · simp [dltL, q]
theorem dltN_bd {oa ob : List (List Int)} {nl i n : Nat} (ha : ∀ j, j < n → monB (nth (outN oa j) i) = true) (hb : ∀ j, j < n → monB (nth (outN ob j) i) = true) : ∀ k, k ≤ n → -(2000000000000 * (k : Int)) ≤ dltN oa ob i k ∧ dltN oa ob i k ≤ 2000000000000 * (k : Int)
  | 0, _ => by simp [dltN]
  | k + 1, h => by
    have ih := dltN_bd (nl := nl) ha hb k (by omega)
    have h1 := monB_iff.1 (ha k (by omega))
    have h2 := monB_iff.1 (hb k (by omega))
    rw [dltN]
    have e : ((k + 1 : Nat) : Int) = (k : Int) + 1 := by omega
    rw [e]
    omega
theorem Runs.mon {p : Pl} {seen frm : Int} {nl ni n : Nat} {y : Int} {s : List Int} {outs : List (List Int)} (h1 : p.lns.length = nl) (hr : Runs p seen frm nl ni n y s outs) {i : Nat} (hi : i < n) : (outN outs i).length = nl ∧ ∀ j, j < nl → monB (nth (outN outs i) j) = true := by
  obtain ⟨y1, s1, r⟩ := hr.pre (i + 1) (by omega)
  obtain ⟨y2, s2, o2, k, vs, r2, ⟨f, t, d, m, yrs, _, _, _, hb, hv⟩, _, _, e⟩ := r.inv
  obtain ⟨q1, q2, q3⟩ := bind_ok hb
  obtain ⟨hl, hsc⟩ := linesV_ok q1 q3 q2 nl (by omega) vs hv
  have e2 : outN outs i = vs := by
    have h := congrArg (fun l => outN l i) e
    rw [show outN (o2 ++ [vs]) i = vs by rw [← r2.len]; exact outN_new] at h
    rw [← h]
    simp [outN, List.getD_eq_getElem?_getD, List.getElem?_take]
  rw [e2]
  exact ⟨hl, fun j hj => hsc.2.2.2.2.2.2 j (by omega)⟩
theorem OnlyG.drew {g : Nat} {w w' : World} (h : OnlyG g w w') : OnlyG g w w'.drew := ⟨h.os, h.tape, h.output, h.size, h.block⟩
/-- What Delta answers. -/
def DeltaR (p : Pl) (frm to was is : Int) (nl ni : Nat) (w : World) (rv : Value) (er : Int) (w' : World) : Prop :=
  (er ≠ 0 ∧ rv = .slice none 0 0 ∧ (FreshE p frm to was nl ni er ∨ ((PlanIs p 0 ∧ AskOk frm to was ∧ to - frm < 60 ∧ ∃ (n : Nat) (y : Int) (s : List Int) (o : List (List Int)), frm + (n : Int) = to + 1 ∧ Runs p was frm nl ni n y s o) ∧ FreshE p frm to is nl ni er) ∨
    (er = 3 ∧ PlanIs p 0 ∧ AskOk frm to was ∧ AskOk frm to is ∧ to - frm < 60 ∧ ∃ (n : Nat) (ya : Int) (sa : List Int) (oa : List (List Int)) (yb : Int) (sb : List Int) (ob : List (List Int)), frm + (n : Int) = to + 1 ∧ Runs p was frm nl ni n ya sa oa ∧ Runs p is frm nl ni n yb sb ob ∧ ∃ i, i < nl ∧ monB (dltN oa ob i n) = false))) ∨
  (er = 0 ∧ PlanIs p 0 ∧ AskOk frm to was ∧ AskOk frm to is ∧ to - frm < 60 ∧ ∃ (n : Nat) (ya : Int) (sa : List Int) (oa : List (List Int)) (yb : Int) (sb : List Int) (ob : List (List Int)) (g : Nat), frm + (n : Int) = to + 1 ∧ Runs p was frm nl ni n ya sa oa ∧ Runs p is frm nl ni n yb sb ob ∧ (∀ i, i < nl → monB (dltN oa ob i n) = true) ∧ rv = .slice (some ⟨g, 0, none⟩) nl nl ∧ w.heap.size ≤ g ∧ Own w' g (dltL oa ob nl n 0))
theorem FreshR.err {p : Pl} {frm to seen : Int} {nl ni : Nat} {w w' : World} {rv : Value} {er : Int} (h : FreshR p frm to seen nl ni w rv er w') (h0 : er ≠ 0) : rv = .slice none 0 0 ∧ FreshE p frm to seen nl ni er := by
  rcases h with ⟨_, h, h'⟩ | ⟨h, _⟩
  · exact ⟨h, h'⟩
  · exact absurd h h0
set_option maxRecDepth 100000 in
set_option maxHeartbeats 4000000 in
theorem Delta_any (p : Pl) (al at' ai : Option Addr) (nl nt ni cl ct ci : Nat) (frm to was is : Int) (w : World) (hS : Shp w) (hc : CameP w al at' ai p) (h1 : p.lns.length = nl) (h2 : p.tbs.length = nt) (h3 : p.ins.length = ni) (hto : to ≤ 9223372036854775807) :
    Calls Tryz.prog 22 #[.agg #[.int .i64 p.K, .int .i64 p.A, .int .i64 p.L, .slice al nl cl, .slice at' nt ct, .slice ai ni ci], .int .i64 frm, .int .i64 to, .int .i64 was, .int .i64 is] w fun e w' => ∃ (rv : Value) (er : Int), e = .returned (.tuple #[rv, .int .i64 er]) ∧ DeltaR p frm to was is nl ni w rv er w' ∧ Below w.heap.size w w' := by
  have HB0 := Lib.hid (kbelow_box w (.cells #[.int .i64 p.K, .int .i64 p.A, .int .i64 p.L, .slice al nl cl, .slice at' nt ct, .slice ai ni ci] 28))
  have HP0 := Lib.hid (PBox.made w p.K p.A p.L al at' ai nl nt ni cl ct ci)
  have HC := Lib.hid hc
  have HS := Lib.hid hS
  have H1 := Lib.hid h1
  have H2 := Lib.hid h2
  have H3 := Lib.hid h3
  have HT := Lib.hid hto
  clear hS hc h1 h2 h3 hto
  obtain ⟨_, x0, x1, x2, x3, x4, x5⟩ := HP0.out
  go_enter Tryz.func22, Tryz.ntmps22
  go_wp2_with fail
  refine (Fresh_any p al at' ai nl nt ni cl ct ci frm to was _ (HS.out.below HB0.out) (HC.out.below HB0.out) H1.out H2.out H3.out HT.out).mono ?_
  rintro e w1 ⟨ra, ea, rfl, hfa, hb1⟩
  have HB1 := Lib.hid (HB0.out.trans (hb1.mono HB0.out.size))
  have HP1 := Lib.hid (HP0.out.below hb1 HP0.out.1)
  have hw01 : w.heap.size ≤ (w.alloc (.cells #[.int .i64 p.K, .int .i64 p.A, .int .i64 p.L, .slice al nl cl, .slice at' nt ct, .slice ai ni ci] 28)).heap.size := HB0.out.size
  clear hb1 HP0 HB0 x0 x1 x2 x3 x4 x5
  rcases hfa.lists with ⟨hea, hra⟩ | ⟨rfl, hpl, haska, h60, n, ya, sa, oa, rowa, ga, ca, Ba, hna, hra, _, hola, rfl, _, hca, hla⟩
  · subst hra
    have heB : (ea != 0) = true := by simp [hea]
    have HFE := Lib.hid (hfa.err hea).2
    have HNE := Lib.hid hea
    clear hfa hea
    go_wp2_with fail
    refine bodyPost_ret (v := .tuple #[(.slice none 0 0), .int .i64 ea]) (by simp [results, Tryz.results22, go_sem] <;> rfl) rfl ?_
    exact ⟨_, _, rfl, .inl ⟨HNE.out, rfl, .inl HFE.out⟩, HB1.out⟩
  · have HRA := Lib.hid hra
    have HLA := Lib.hid hla
    have HPL := Lib.hid hpl
    have HAA := Lib.hid haska
    have HOA := Lib.hid hola
    clear hfa hra hla hpl haska hola
    obtain ⟨_, x0, x1, x2, x3, x4, x5⟩ := HP1.out
    go_wp2_with fail
    refine (Fresh_any p al at' ai nl nt ni cl ct ci frm to is _ (HS.out.below HB1.out) (HC.out.below HB1.out) H1.out H2.out H3.out HT.out).mono ?_
    rintro e w2 ⟨rb, eb, rfl, hfb, hb2⟩
    have HB2 := Lib.hid (HB1.out.trans (hb2.mono HB1.out.size))
    have HP2 := Lib.hid (HP1.out.below hb2 HP1.out.1)
    have HLA2 := Lib.hid (HLA.out.below hb2)
    clear hb2 HP1 HB1 HLA x0 x1 x2 x3 x4 x5
    rcases hfb.lists with ⟨heb, hrb⟩ | ⟨rfl, _, haskb, _, n', yb, sb, ob, rowb, gb, cb, Bb, hnb, hrb, _, holb, rfl, _, hcb, hlb⟩
    · subst hrb
      have heB : (eb != 0) = true := by simp [heb]
      have HFE := Lib.hid (hfb.err heb).2
      have HNE := Lib.hid heb
      clear hfb heb
      go_wp2_with fail
      refine bodyPost_ret (v := .tuple #[(.slice none 0 0), .int .i64 eb]) (by simp [results, Tryz.results22, go_sem] <;> rfl) rfl ?_
      exact ⟨_, _, rfl, .inl ⟨HNE.out, rfl, .inr (.inl ⟨⟨HPL.out, HAA.out, h60, n, ya, sa, oa, hna, HRA.out⟩, HFE.out⟩)⟩, HB2.out⟩
    · obtain rfl : n = n' := by omega
      have HRB := Lib.hid hrb
      have HLB := Lib.hid hlb
      have HAB := Lib.hid haskb
      have HOB := Lib.hid holb
      have hnl : nl ≤ 30 := by have := HPL.out.small.1; have := H1.out; omega
      have hn60 : n ≤ 60 := by omega
      clear hfb hrb hlb haskb holb hnb
      obtain ⟨_, x0, x1, x2, x3, x4, x5⟩ := HP2.out
      have hmk := make_ints nl (by omega)
      have HBX := Lib.hid (kbelow_box w2 (.cells (madeCells #[.int .i64 0] nl) 3))
      have HOW := Lib.hid (Own.made w2 nl 3)
      have HB3 := Lib.hid (HB2.out.trans (HBX.out.mono HB2.out.size))
      have HLA3 := Lib.hid (HLA2.out.below HBX.out)
      have HLB3 := Lib.hid (HLB.out.below HBX.out)
      have hga : ga < w2.heap.size := HLA2.out.lt
      have hgb : gb < w2.heap.size := HLB.out.lt
      have HGA : Hid (∀ j, j < n → ∀ b, (rowN rowa j).ownBlock = some b → b < w2.heap.size) := fun j hj b hb => ((HLA2.out.row j (by rw [HLA2.out.len, HOA.out]; exact hj)).lt b hb).2
      have HGB : Hid (∀ j, j < n → ∀ b, (rowN rowb j).ownBlock = some b → b < w2.heap.size) := fun j hj b hb => ((HLB.out.row j (by rw [HLB.out.len, HOB.out]; exact hj)).lt b hb).2
      go_wp2_with fail
      clear hmk x0 x1 x2 x3 x4 x5
      generalize (w2.alloc (.cells (madeCells #[.int .i64 0] nl) 3)) = w3 at *
      go_loopw [48] (fun i wr => ∃ k : Nat, k ≤ n ∧ i = .int .i64 k ∧ Own wr w2.heap.size (dltL oa ob nl k 0) ∧ OnlyG w2.heap.size w3 wr) (fun i _ => n - (intOf i).toNat)
      case atStart => exact ⟨0, Nat.zero_le _, rfl, by rw [dltL_zero]; exact HOW.out, OnlyG.refl _ _⟩
      case round =>
        obtain ⟨k, hk, rfl, hok, hon⟩ := hrel
        have HOK := Lib.hid hok
        have HON := Lib.hid hon
        clear hok hon
        by_cases hlt : k < n
        · have hlt' : (k : Int) < (n : Int) := by omega
          go_wp2_with fail
          go_loopw [53] (fun i wr => ∃ j : Nat, j ≤ nl ∧ i = .int .i64 j ∧ Own wr w2.heap.size (dltL oa ob nl k j) ∧ OnlyG w2.heap.size w3 wr) (fun i _ => nl - (intOf i).toNat)
          case atStart => exact ⟨0, Nat.zero_le _, rfl, HOK.out, HON.out⟩
          case round =>
            clear HOK HON
            obtain ⟨j, hj, rfl, hok, hon⟩ := hrel
            have HOK := Lib.hid hok
            have HON := Lib.hid hon
            clear hok hon
            by_cases hjl : j < nl
            · have hjl' : (j : Int) < (nl : Int) := by omega
              obtain ⟨xa, da, hva, _, hoa⟩ := (HLA3.out.row k (by rw [HLA3.out.len, HOA.out]; exact hlt)).own (by rw [(HRA.out.mon H1.out hlt).1]; omega)
              obtain ⟨xb, db, hvb, _, hob⟩ := (HLB3.out.row k (by rw [HLB3.out.len, HOB.out]; exact hlt)).own (by rw [(HRB.out.mon H1.out hlt).1]; omega)
              rw [(HRA.out.mon H1.out hlt).1] at hva
              rw [(HRB.out.mon H1.out hlt).1] at hvb
              have hxa : xa < w2.heap.size := HGA.out k hlt xa (by rw [hva]; rfl)
              have hxb : xb < w2.heap.size := HGB.out k hlt xb (by rw [hvb]; rfl)
              have ca' := (HON.out.cell (p := ⟨ga, k, none⟩) (by show ga ≠ w2.heap.size; omega)).trans (HLA3.out.cell k (by rw [HLA3.out.len, HOA.out]; exact hlt))
              have cb' := (HON.out.cell (p := ⟨gb, k, none⟩) (by show gb ≠ w2.heap.size; omega)).trans (HLB3.out.cell k (by rw [HLB3.out.len, HOB.out]; exact hlt))
              rw [hva] at ca'
              rw [hvb] at cb'
              have za := (HON.out.cell (p := ⟨xa, j, none⟩) (by show xa ≠ w2.heap.size; omega)).trans (hoa.cell (j := j) (by rw [(HRA.out.mon H1.out hlt).1]; exact hjl))
              have zb := (HON.out.cell (p := ⟨xb, j, none⟩) (by show xb ≠ w2.heap.size; omega)).trans (hob.cell (j := j) (by rw [(HRB.out.mon H1.out hlt).1]; exact hjl))
              have hjL : j < (dltL oa ob nl k j).length := by rw [dltL_len]; exact hjl
              have xj := HOK.out.cell hjL
              have sf := HOK.out.free hjL
              rw [dltL_at oa ob hjl, if_neg (Nat.lt_irrefl _)] at xj
              have bx := dltN_bd (nl := nl) (n := n) (i := j) (fun q hq => (HRA.out.mon H1.out hq).2 j hjl) (fun q hq => (HRB.out.mon H1.out hq).2 j hjl) k (by omega)
              have by' := monB_iff.1 ((HRB.out.mon H1.out hlt).2 j hjl)
              have bz := monB_iff.1 ((HRA.out.mon H1.out hlt).2 j hjl)
              obtain ⟨x, hx⟩ : ∃ x, dltN oa ob j k = x := ⟨_, rfl⟩
              obtain ⟨y, hy⟩ : ∃ y, nth (outN ob k) j = y := ⟨_, rfl⟩
              obtain ⟨z, hz⟩ : ∃ z, nth (outN oa k) j = z := ⟨_, rfl⟩
              rw [hx] at xj bx
              rw [hy] at zb by'
              rw [hz] at za bz
              have HX : Hid (dltN oa ob j (k + 1) = x + (y - z)) := Lib.hid (by rw [dltN, hx, hy, hz])
              have i1 : IntKind.i64.wrap (y - z) = y - z := IntWalk.i64_in _ (by omega)
              have i2 : IntKind.i64.wrap (x + (y - z)) = x + (y - z) := IntWalk.i64_in _ (by omega)
              have HSET := Lib.hid (HOK.out.set hjL (x + (y - z)))
              have wa : (wr.setCell ⟨w2.heap.size, j, none⟩ (.int .i64 (x + (y - z)))).cell? ⟨ga, k, none⟩ = some (.slice (some ⟨xa, 0, none⟩) nl da) := (World.cell?_setCell_far wr ⟨w2.heap.size, j, none⟩ ⟨ga, k, none⟩ _ (by show w2.heap.size ≠ ga; omega)).trans ca'
              have wb : (wr.setCell ⟨w2.heap.size, j, none⟩ (.int .i64 (x + (y - z)))).cell? ⟨gb, k, none⟩ = some (.slice (some ⟨xb, 0, none⟩) nl db) := (World.cell?_setCell_far wr ⟨w2.heap.size, j, none⟩ ⟨gb, k, none⟩ _ (by show w2.heap.size ≠ gb; omega)).trans cb'
              have va : (wr.setCell ⟨w2.heap.size, j, none⟩ (.int .i64 (x + (y - z)))).cell? ⟨xa, j, none⟩ = some (.int .i64 z) := (World.cell?_setCell_far wr ⟨w2.heap.size, j, none⟩ ⟨xa, j, none⟩ _ (by show w2.heap.size ≠ xa; omega)).trans za
              have vb : (wr.setCell ⟨w2.heap.size, j, none⟩ (.int .i64 (x + (y - z)))).cell? ⟨xb, j, none⟩ = some (.int .i64 y) := (World.cell?_setCell_far wr ⟨w2.heap.size, j, none⟩ ⟨xb, j, none⟩ _ (by show w2.heap.size ≠ xb; omega)).trans zb
              clear hoa hob hva hvb hx hy hz bx by' bz hjL
              go_wp2_with fail
              refine wp_region_held_drew (S := fun w' => w'.cell? ⟨gb, k, none⟩ = some (.slice (some ⟨xb, 0, none⟩) nl db) ∧ w'.cell? ⟨xb, j, none⟩ = some (.int .i64 y) ∧ w'.cell? ⟨ga, k, none⟩ = some (.slice (some ⟨xa, 0, none⟩) nl da) ∧ w'.cell? ⟨xa, j, none⟩ = some (.int .i64 z)) (by kernel_rfl) ?_ (fun hHeld => ?_)
              · exact ⟨cb', zb, ca', za⟩
              refine wpAnyH_take (i := 0) (oi := _) (v := .slice (some ⟨w2.heap.size, 0, none⟩) nl nl) rfl (by kernel_rfl) (by kernel_rfl) (by kernel_rfl) (fun _ _ _ h => h) (Or.inl ⟨by rfl, fun w hSw => ?_⟩) (by assumption) ?_
              · ((try dsimp only at hSw); go_simp; try with_reducible rfl)
              try simp only [Act.put, List.setIfInBounds_toArray, List.set_cons_zero, List.set_cons_succ]
              refine wpAnyH_take (i := 1) (oi := _) (v := .int .i64 j) rfl (by kernel_rfl) (by kernel_rfl) (by kernel_rfl) (fun _ _ _ h => h) (Or.inl ⟨by rfl, fun w hSw => ?_⟩) (by assumption) ?_
              · ((try dsimp only at hSw); go_simp; try with_reducible rfl)
              try simp only [Act.put, List.setIfInBounds_toArray, List.set_cons_zero, List.set_cons_succ]
              refine wpAnyH_take (i := 2) (oi := _) (v := .pointer (some ⟨w2.heap.size, j, none⟩)) rfl (by kernel_rfl) (by kernel_rfl) (by kernel_rfl) (fun _ _ _ h => h) (Or.inl ⟨by rfl, fun w hSw => ?_⟩) (by assumption) ?_
              · ((try dsimp only at hSw); go_simp; try with_reducible rfl)
              try simp only [Act.put, List.setIfInBounds_toArray, List.set_cons_zero, List.set_cons_succ]
              refine wpAnyH_take (i := 4) (oi := _) (v := .slice (some ⟨gb, 0, none⟩) n cb) rfl (by kernel_rfl) (by kernel_rfl) (by kernel_rfl) (fun _ _ _ h => h) (Or.inl ⟨by rfl, fun w hSw => ?_⟩) (by assumption) ?_
              · ((try dsimp only at hSw); go_simp; try with_reducible rfl)
              try simp only [Act.put, List.setIfInBounds_toArray, List.set_cons_zero, List.set_cons_succ]
              refine wpAnyH_take (i := 5) (oi := _) (v := .int .i64 k) rfl (by kernel_rfl) (by kernel_rfl) (by kernel_rfl) (fun _ _ _ h => h) (Or.inl ⟨by rfl, fun w hSw => ?_⟩) (by assumption) ?_
              · ((try dsimp only at hSw); go_simp; try with_reducible rfl)
              try simp only [Act.put, List.setIfInBounds_toArray, List.set_cons_zero, List.set_cons_succ]
              refine wpAnyH_take (i := 6) (oi := _) (v := .pointer (some ⟨gb, k, none⟩)) rfl (by kernel_rfl) (by kernel_rfl) (by kernel_rfl) (fun _ _ _ h => h) (Or.inl ⟨by rfl, fun w hSw => ?_⟩) (by assumption) ?_
              · ((try dsimp only at hSw); go_simp; try with_reducible rfl)
              try simp only [Act.put, List.setIfInBounds_toArray, List.set_cons_zero, List.set_cons_succ]
              refine wpAnyH_take (i := 7) (oi := _) (v := .slice (some ⟨xb, 0, none⟩) nl db) rfl (by kernel_rfl) (by kernel_rfl) (by kernel_rfl) (fun _ _ _ h => h) (Or.inl ⟨by rfl, fun w hSw => ?_⟩) (by assumption) ?_
              · ((try dsimp only at hSw); go_simp; try with_reducible rfl)
              try simp only [Act.put, List.setIfInBounds_toArray, List.set_cons_zero, List.set_cons_succ]
              refine wpAnyH_take (i := 8) (oi := _) (v := .int .i64 j) rfl (by kernel_rfl) (by kernel_rfl) (by kernel_rfl) (fun _ _ _ h => h) (Or.inl ⟨by rfl, fun w hSw => ?_⟩) (by assumption) ?_
              · ((try dsimp only at hSw); go_simp; try with_reducible rfl)
              try simp only [Act.put, List.setIfInBounds_toArray, List.set_cons_zero, List.set_cons_succ]
              refine wpAnyH_take (i := 9) (oi := _) (v := .pointer (some ⟨xb, j, none⟩)) rfl (by kernel_rfl) (by kernel_rfl) (by kernel_rfl) (fun _ _ _ h => h) (Or.inl ⟨by rfl, fun w hSw => ?_⟩) (by assumption) ?_
              · ((try dsimp only at hSw); go_simp; try with_reducible rfl)
              try simp only [Act.put, List.setIfInBounds_toArray, List.set_cons_zero, List.set_cons_succ]
              refine wpAnyH_take (i := 10) (oi := _) (v := .int .i64 y) rfl (by kernel_rfl) (by kernel_rfl) (by kernel_rfl) (fun _ _ _ h => h) (Or.inl ⟨by rfl, fun w hSw => ?_⟩) (by assumption) ?_
              · ((try dsimp only at hSw); go_simp; try with_reducible rfl)
              try simp only [Act.put, List.setIfInBounds_toArray, List.set_cons_zero, List.set_cons_succ]
              refine wpAnyH_take (i := 11) (oi := _) (v := .slice (some ⟨ga, 0, none⟩) n ca) rfl (by kernel_rfl) (by kernel_rfl) (by kernel_rfl) (fun _ _ _ h => h) (Or.inl ⟨by rfl, fun w hSw => ?_⟩) (by assumption) ?_
              · ((try dsimp only at hSw); go_simp; try with_reducible rfl)
              try simp only [Act.put, List.setIfInBounds_toArray, List.set_cons_zero, List.set_cons_succ]
              refine wpAnyH_take (i := 12) (oi := _) (v := .int .i64 k) rfl (by kernel_rfl) (by kernel_rfl) (by kernel_rfl) (fun _ _ _ h => h) (Or.inl ⟨by rfl, fun w hSw => ?_⟩) (by assumption) ?_
              · ((try dsimp only at hSw); go_simp; try with_reducible rfl)
              try simp only [Act.put, List.setIfInBounds_toArray, List.set_cons_zero, List.set_cons_succ]
              refine wpAnyH_take (i := 13) (oi := _) (v := .pointer (some ⟨ga, k, none⟩)) rfl (by kernel_rfl) (by kernel_rfl) (by kernel_rfl) (fun _ _ _ h => h) (Or.inl ⟨by rfl, fun w hSw => ?_⟩) (by assumption) ?_
              · ((try dsimp only at hSw); go_simp; try with_reducible rfl)
              try simp only [Act.put, List.setIfInBounds_toArray, List.set_cons_zero, List.set_cons_succ]
              refine wpAnyH_take (i := 14) (oi := _) (v := .slice (some ⟨xa, 0, none⟩) nl da) rfl (by kernel_rfl) (by kernel_rfl) (by kernel_rfl) (fun _ _ _ h => h) (Or.inl ⟨by rfl, fun w hSw => ?_⟩) (by assumption) ?_
              · ((try dsimp only at hSw); go_simp; try with_reducible rfl)
              try simp only [Act.put, List.setIfInBounds_toArray, List.set_cons_zero, List.set_cons_succ]
              refine wpAnyH_take (i := 15) (oi := _) (v := .int .i64 j) rfl (by kernel_rfl) (by kernel_rfl) (by kernel_rfl) (fun _ _ _ h => h) (Or.inl ⟨by rfl, fun w hSw => ?_⟩) (by assumption) ?_
              · ((try dsimp only at hSw); go_simp; try with_reducible rfl)
              try simp only [Act.put, List.setIfInBounds_toArray, List.set_cons_zero, List.set_cons_succ]
              refine wpAnyH_take (i := 16) (oi := _) (v := .pointer (some ⟨xa, j, none⟩)) rfl (by kernel_rfl) (by kernel_rfl) (by kernel_rfl) (fun _ _ _ h => h) (Or.inl ⟨by rfl, fun w hSw => ?_⟩) (by assumption) ?_
              · ((try dsimp only at hSw); go_simp; try with_reducible rfl)
              try simp only [Act.put, List.setIfInBounds_toArray, List.set_cons_zero, List.set_cons_succ]
              refine wpAnyH_take (i := 17) (oi := _) (v := .int .i64 z) rfl (by kernel_rfl) (by kernel_rfl) (by kernel_rfl) (fun _ _ _ h => h) (Or.inl ⟨by rfl, fun w hSw => ?_⟩) (by assumption) ?_
              · ((try dsimp only at hSw); go_simp; try with_reducible rfl)
              try simp only [Act.put, List.setIfInBounds_toArray, List.set_cons_zero, List.set_cons_succ]
              refine wpAnyH_take (i := 18) (oi := _) (v := .int .i64 (y - z)) rfl (by kernel_rfl) (by kernel_rfl) (by kernel_rfl) (fun _ _ _ h => h) (Or.inl ⟨by rfl, fun w hSw => ?_⟩) (by assumption) ?_
              · ((try dsimp only at hSw); go_simp; try with_reducible rfl)
              try simp only [Act.put, List.setIfInBounds_toArray, List.set_cons_zero, List.set_cons_succ]
              refine wpAnyH_ready (rs := [3]) (by kernel_rfl) (by simp) ?_
              refine AllReadyH.cons rfl (fun K hK => ?_) AllReadyH.nil
              go_simp
              refine hK.out _ _ ⟨cb', zb, ca', za⟩ (fun hHeld => ?_)
              clear hK K
              try simp only [Act.put, List.setIfInBounds_toArray, List.set_cons_zero, List.set_cons_succ]
              refine wpAnyH_take (i := 19) (oi := _) (v := .int .i64 (x + (y - z))) rfl (by kernel_rfl) (by kernel_rfl) (by kernel_rfl) (fun _ _ _ h => h) (Or.inl ⟨by rfl, fun w hSw => ?_⟩) (by assumption) ?_
              · ((try dsimp only at hSw); go_simp; try with_reducible rfl)
              try simp only [Act.put, List.setIfInBounds_toArray, List.set_cons_zero, List.set_cons_succ]
              refine wpAnyH_take (i := 20) (oi := _) (v := .pointer (some ⟨w2.heap.size, j, none⟩)) rfl (by kernel_rfl) (by kernel_rfl) (by kernel_rfl) (fun _ _ _ h => h) (Or.inl ⟨by rfl, fun w hSw => ?_⟩) (by assumption) ?_
              · ((try dsimp only at hSw); go_simp; try with_reducible rfl)
              try simp only [Act.put, List.setIfInBounds_toArray, List.set_cons_zero, List.set_cons_succ]
              refine wpAnyH_ready (rs := [21]) (by kernel_rfl) (by simp) ?_
              refine AllReadyH.cons rfl (fun K hK => ?_) AllReadyH.nil
              go_simp
              refine hK.out _ _ ⟨wb, vb, wa, va⟩ (fun hHeld => ?_)
              clear hK K
              refine wpAnyH_done (by kernel_rfl) ?_ _
              go_wp2_with fail
              go_roundw
              case rel => exact ⟨j + 1, by omega, by go_num, by rw [← dltL_set oa ob hjl, HX.out]; exact HSET.out, (HON.out.set j _).drew⟩
              case measure => simp [intOf]; omega
            · obtain rfl : j = nl := by omega
              have hjB : decide ((j : Int) < (j : Int)) = false := decide_eq_false (by omega)
              go_wp2_with fail
              go_roundw
              case rel => exact ⟨k + 1, by omega, by go_num, by rw [← dltL_next]; exact HOK.out, HON.out⟩
              case measure => simp [intOf]; omega
        · obtain rfl : k = n := by omega
          have hltB : decide ((k : Int) < (k : Int)) = false := decide_eq_false (by omega)
          go_wp2_with fail
          go_loopw [81] (fun i wr => ∃ j : Nat, j ≤ nl ∧ i = .int .i64 j ∧ Own wr w2.heap.size (dltL oa ob nl k 0) ∧ OnlyG w2.heap.size w3 wr ∧ ∀ q, q < j → monB (dltN oa ob q k) = true) (fun i _ => nl - (intOf i).toNat)
          case atStart => exact ⟨0, Nat.zero_le _, rfl, HOK.out, HON.out, fun q hq => by omega⟩
          case round =>
            clear HOK HON
            obtain ⟨j, hj, rfl, hok, hon, hmm⟩ := hrel
            have HOK := Lib.hid hok
            have HON := Lib.hid hon
            have HMM := Lib.hid hmm
            clear hok hon hmm
            have HBE := Lib.hid (HB3.out.trans (HON.out.below (B := w.heap.size) HB2.out.size))
            by_cases hjl : j < nl
            · have hjl' : (j : Int) < (nl : Int) := by omega
              have xj := HOK.out.cell (j := j) (by rw [dltL_len]; exact hjl)
              rw [dltL_at oa ob hjl, if_neg (Nat.not_lt_zero _)] at xj
              obtain ⟨z, hz⟩ : ∃ z, dltN oa ob j k = z := ⟨_, rfl⟩
              rw [hz] at xj
              have HZ := Lib.hid hz
              clear hz
              by_cases hm : monB z = true
              · go_wp2_with (first | (go_at_call 46; refine (isMoney_any _ _).mono ?_; rintro e w' ⟨rfl, h'⟩; subst w'; rw [hm]))
                go_roundw
                case rel => exact ⟨j + 1, by omega, by go_num, HOK.out, HON.out, fun q hq => by
                  by_cases e : q = j
                  · subst e; rw [HZ.out]; exact hm
                  · exact HMM.out q (by omega)⟩
                case measure => simp [intOf]; omega
              · have hm' : monB z = false := by simpa using hm
                clear hm
                go_wp2_with (first | (go_at_call 46; refine (isMoney_any _ _).mono ?_; rintro e w' ⟨rfl, h'⟩; subst w'; rw [hm']))
                refine bodyPost_ret (v := .tuple #[(.slice none 0 0), .int .i64 3]) (by simp [results, Tryz.results22, go_sem] <;> rfl) rfl ?_
                exact ⟨_, _, rfl, .inl ⟨by omega, rfl, .inr (.inr ⟨rfl, HPL.out, HAA.out, HAB.out, h60, k, ya, sa, oa, yb, sb, ob, hna, HRA.out, HRB.out, j, hjl, by rw [HZ.out]; exact hm'⟩)⟩, HBE.out⟩
            · obtain rfl : j = nl := by omega
              have hjB : decide ((j : Int) < (j : Int)) = false := decide_eq_false (by omega)
              go_wp2_with fail
              refine bodyPost_ret (v := .tuple #[(.slice (some ⟨w2.heap.size, 0, none⟩) j j), .int .i64 0]) (by simp [results, Tryz.results22, go_sem] <;> rfl) rfl ?_
              exact ⟨_, _, rfl, .inr ⟨rfl, HPL.out, HAA.out, HAB.out, h60, k, ya, sa, oa, yb, sb, ob, w2.heap.size, hna, HRA.out, HRB.out, HMM.out, rfl, HB2.out.size, HOK.out⟩, HBE.out⟩
end Go.Proofs.YtonceehdmnkffaaGreatDoor
