/-
  Promise N4: the reference's DeltaOf.
-/
import Derived.Test.YtonceehdmnkffaaGreatDoorMX
import Derived.Test.YtonceehdmnkffaaGreatDoorMR
import Derived.Deep.RegionHeld3
set_option linter.unusedSimpArgs false
namespace Go.Proofs.YtonceehdmnkffaaGreatDoor
open Go.RowKit Go.Sort

/-- All lines: those ahead of line i whole, line i of the first k periods. -/
def dltP (oa ob : List (List Int)) (nl n i k : Nat) : List Int := (List.range nl).map fun j => if j < i then dltN oa ob j n else if j = i then dltN oa ob j k else 0
theorem dltP_len (oa ob : List (List Int)) (nl n i k : Nat) : (dltP oa ob nl n i k).length = nl := by simp [dltP]
theorem dltP_at (oa ob : List (List Int)) {nl n k i : Nat} (h : i < nl) : nth (dltP oa ob nl n i k) i = dltN oa ob i k := by
  simp [nth, dltP, List.getD_eq_getElem?_getD, h]
theorem dltP_set (oa ob : List (List Int)) {nl n k i : Nat} (h : i < nl) : (dltP oa ob nl n i k).set i (dltN oa ob i (k + 1)) = dltP oa ob nl n i (k + 1) := by
  apply List.ext_getElem?
  intro j
  rw [List.getElem?_set]
  by_cases e : i = j
  · subst e
    simp [dltP, h]
  · rw [if_neg e]
    by_cases q : j < nl
    · simp [dltP, q, Ne.symm e]
    · simp [dltP, q]
theorem dltP_next (oa ob : List (List Int)) (nl n i : Nat) : dltP oa ob nl n i n = dltP oa ob nl n (i + 1) 0 := by
  unfold dltP
  refine List.map_congr_left fun j _ => ?_
  by_cases e : j < i
  · rw [if_pos e, if_pos (by omega)]
  · by_cases e2 : j = i
    · rw [if_neg e, if_pos e2, if_pos (by omega)]
    · rw [if_neg e, if_neg e2, if_neg (by omega)]
      split
      · rfl
      · rfl
theorem dltP_zero (oa ob : List (List Int)) (nl n : Nat) : dltP oa ob nl n 0 0 = List.replicate nl 0 := by
  apply List.ext_getElem?
  intro j
  by_cases q : j < nl
  · by_cases e : j = 0
    · subst e; simp [dltP, q, dltN]
    · simp [dltP, q, e]
  · simp [dltP, q]
theorem dltP_all (oa ob : List (List Int)) (nl n : Nat) : dltP oa ob nl n nl 0 = dltL oa ob nl n 0 := by
  unfold dltP dltL
  refine List.map_congr_left fun j hj => ?_
  rw [if_pos (List.mem_range.1 hj), if_neg (Nat.not_lt_zero _)]
/-- What DeltaOf answers. -/
def DeltaQ (p : Pl) (frm to was is : Int) (nl ni : Nat) (rv : Value) (er : Int) (w' : World) : Prop :=
  (er ≠ 0 ∧ rv = .slice none 0 0 ∧ (FreshX p frm to was nl ni er ∨ ((PlanIs p 0 ∧ AskOk frm to was ∧ to - frm < 60 ∧ ∃ (n : Nat) (y : Int) (s : List Int) (o : List (List Int)), frm + (n : Int) = to + 1 ∧ Runs p was frm nl ni n y s o) ∧ FreshX p frm to is nl ni er) ∨
    (er = 3 ∧ PlanIs p 0 ∧ AskOk frm to was ∧ AskOk frm to is ∧ to - frm < 60 ∧ ∃ (n : Nat) (ya : Int) (sa : List Int) (oa : List (List Int)) (yb : Int) (sb : List Int) (ob : List (List Int)), frm + (n : Int) = to + 1 ∧ Runs p was frm nl ni n ya sa oa ∧ Runs p is frm nl ni n yb sb ob ∧ ∃ i, i < nl ∧ monB (dltN oa ob i n) = false))) ∨
  (er = 0 ∧ PlanIs p 0 ∧ AskOk frm to was ∧ AskOk frm to is ∧ to - frm < 60 ∧ ∃ (n : Nat) (ya : Int) (sa : List Int) (oa : List (List Int)) (yb : Int) (sb : List Int) (ob : List (List Int)) (g : Nat), frm + (n : Int) = to + 1 ∧ Runs p was frm nl ni n ya sa oa ∧ Runs p is frm nl ni n yb sb ob ∧ (∀ i, i < nl → monB (dltN oa ob i n) = true) ∧ rv = .slice (some ⟨g, 0, none⟩) nl nl ∧ Own w' g (dltL oa ob nl n 0))
/-- Is one of the first k lines no money? -/
def farB (oa ob : List (List Int)) (n : Nat) : Nat → Bool
  | 0 => false
  | k + 1 => farB oa ob n k || !monB (dltN oa ob k n)
theorem farB_no {oa ob : List (List Int)} {n : Nat} : ∀ {k : Nat}, farB oa ob n k = false → ∀ i, i < k → monB (dltN oa ob i n) = true
  | 0, _, i, hi => by omega
  | k + 1, h, i, hi => by
    rw [farB, Bool.or_eq_false_iff] at h
    by_cases e : i = k
    · subst e; simpa using h.2
    · exact farB_no h.1 i (by omega)
theorem farB_yes {oa ob : List (List Int)} {n : Nat} : ∀ {k : Nat}, farB oa ob n k = true → ∃ i, i < k ∧ monB (dltN oa ob i n) = false
  | 0, h => by cases h
  | k + 1, h => by
    rw [farB, Bool.or_eq_true] at h
    rcases h with h | h
    · obtain ⟨i, hi, e⟩ := farB_yes h; exact ⟨i, by omega, e⟩
    · exact ⟨k, by omega, by simpa using h⟩
set_option maxRecDepth 100000 in
set_option maxHeartbeats 4000000 in
theorem deltaOf_ref (p : Pl) (al at' ai : Option Addr) (nl nt ni cl ct ci : Nat) (frm to was is : Int) (w : World) (hc : CameP w al at' ai p) (h1 : p.lns.length = nl) (h2 : p.tbs.length = nt) (h3 : p.ins.length = ni) (hto : to ≤ 9223372036854775807) :
    Calls Tryz.prog 23 #[.agg #[.int .i64 p.K, .int .i64 p.A, .int .i64 p.L, .slice al nl cl, .slice at' nt ct, .slice ai ni ci], .int .i64 frm, .int .i64 to, .int .i64 was, .int .i64 is] w fun e w' => ∃ (rv : Value) (er : Int), e = .returned (.tuple #[rv, .int .i64 er]) ∧ DeltaQ p frm to was is nl ni rv er w' ∧ Below w.heap.size w w' := by
  have HB0 := Lib.hid (kbelow_box w (.cells #[.int .i64 p.K, .int .i64 p.A, .int .i64 p.L, .slice al nl cl, .slice at' nt ct, .slice ai ni ci] 28))
  have HP0 := Lib.hid (PBox.made w p.K p.A p.L al at' ai nl nt ni cl ct ci)
  have HC := Lib.hid hc
  have H1 := Lib.hid h1
  have H2 := Lib.hid h2
  have H3 := Lib.hid h3
  have HT := Lib.hid hto
  clear hc h1 h2 h3 hto
  obtain ⟨_, x0, x1, x2, x3, x4, x5⟩ := HP0.out
  go_enter Tryz.func23, Tryz.ntmps23
  go_wp2_with fail
  refine (freshOf_ref p al at' ai nl nt ni cl ct ci frm to was _ (HC.out.below HB0.out) H1.out H2.out H3.out HT.out).mono ?_
  rintro e w1 ⟨ra, ea, rfl, hfa, hb1⟩
  have HB1 := Lib.hid (HB0.out.trans (hb1.mono HB0.out.size))
  have HP1 := Lib.hid (HP0.out.below hb1 HP0.out.1)
  clear hb1 HP0 HB0 x0 x1 x2 x3 x4 x5
  rcases hfa with ⟨hea, rfl, hxa⟩ | ⟨rfl, hpl, haska, h60, n, ya, sa, oa, ga, ca, Ba, hna, hra, rfl, hca, hla⟩
  · have heB : (ea != 0) = true := by simp [hea]
    have HFE := Lib.hid hxa
    have HNE := Lib.hid hea
    clear hxa hea
    go_wp2_with fail
    refine bodyPost_ret (v := .tuple #[(.slice none 0 0), .int .i64 ea]) (by simp [results, Tryz.results23, go_sem] <;> rfl) rfl ?_
    exact ⟨_, _, rfl, .inl ⟨HNE.out, rfl, .inl HFE.out⟩, HB1.out⟩
  · have HRA := Lib.hid hra
    have HLA := Lib.hid hla
    have HPL := Lib.hid hpl
    have HAA := Lib.hid haska
    clear hra hla hpl haska
    obtain ⟨_, x0, x1, x2, x3, x4, x5⟩ := HP1.out
    go_wp2_with fail
    refine (freshOf_ref p al at' ai nl nt ni cl ct ci frm to is _ (HC.out.below HB1.out) H1.out H2.out H3.out HT.out).mono ?_
    rintro e w2 ⟨rb, eb, rfl, hfb, hb2⟩
    have HB2 := Lib.hid (HB1.out.trans (hb2.mono HB1.out.size))
    have HP2 := Lib.hid (HP1.out.below hb2 HP1.out.1)
    have HLA2 := Lib.hid (HLA.out.below hb2)
    clear hb2 HP1 HB1 HLA x0 x1 x2 x3 x4 x5
    rcases hfb with ⟨heb, rfl, hxb⟩ | ⟨rfl, _, haskb, _, n', yb, sb, ob, gb, cb, Bb, hnb, hrb, rfl, hcb, hlb⟩
    · have heB : (eb != 0) = true := by simp [heb]
      have HFE := Lib.hid hxb
      have HNE := Lib.hid heb
      clear hxb heb
      go_wp2_with fail
      refine bodyPost_ret (v := .tuple #[(.slice none 0 0), .int .i64 eb]) (by simp [results, Tryz.results23, go_sem] <;> rfl) rfl ?_
      exact ⟨_, _, rfl, .inl ⟨HNE.out, rfl, .inr (.inl ⟨⟨HPL.out, HAA.out, h60, n, ya, sa, oa, hna, HRA.out⟩, HFE.out⟩)⟩, HB2.out⟩
    · obtain rfl : n = n' := by omega
      have HRB := Lib.hid hrb
      have HLB := Lib.hid hlb
      have HAB := Lib.hid haskb
      have hnl : nl ≤ 30 := by have := HPL.out.small.1; have := H1.out; omega
      have hn60 : n ≤ 60 := by omega
      clear hrb hlb haskb hnb
      obtain ⟨_, x0, x1, x2, x3, x4, x5⟩ := HP2.out
      have hmk := make_ints nl (by omega)
      have HBX := Lib.hid (kbelow_box w2 (.cells (madeCells #[.int .i64 0] nl) 3))
      have HOW := Lib.hid (Own.made w2 nl 3)
      have HB3 := Lib.hid (HB2.out.trans (HBX.out.mono HB2.out.size))
      have hga : ga < w2.heap.size := HLA2.out.1
      have hgb : gb < w2.heap.size := HLB.out.1
      have HBX' : Hid (∀ p : Addr, p.block < w2.heap.size → (w2.alloc (.cells (madeCells #[.int .i64 0] nl) 3)).cell? p = w2.cell? p) := Lib.hid (fun p hp => HBX.out.cell hp)
      go_wp2_with fail
      clear hmk x0 x1 x2 x3 x4 x5
      generalize (w2.alloc (.cells (madeCells #[.int .i64 0] nl) 3)) = w3 at *
      go_loopw [16, 17] (fun f i wr => ∃ j : Nat, j ≤ nl ∧ i = .int .i64 j ∧ f = .bool (farB oa ob n j) ∧ Own wr w2.heap.size (dltP oa ob nl n j 0) ∧ OnlyG w2.heap.size w3 wr) (fun _ i _ => nl - (intOf i).toNat)
      case atStart => exact ⟨0, Nat.zero_le _, rfl, rfl, by rw [dltP_zero]; exact HOW.out, OnlyG.refl _ _⟩
      case round =>
        obtain ⟨j, hj, rfl, rfl, hok, hon⟩ := hrel
        have HOK0 := Lib.hid hok
        have HON0 := Lib.hid hon
        have HBE := Lib.hid (HB3.out.trans (hon.below (B := w.heap.size) HB2.out.size))
        clear hok hon
        by_cases hjl : j < nl
        · have hjl' : (j : Int) < (nl : Int) := by omega
          go_wp2_with fail
          go_loopw [18] (fun i wr => ∃ k : Nat, k ≤ n ∧ i = .int .i64 k ∧ Own wr w2.heap.size (dltP oa ob nl n j k) ∧ OnlyG w2.heap.size w3 wr) (fun i _ => n - (intOf i).toNat)
          case atStart => exact ⟨0, Nat.zero_le _, rfl, HOK0.out, HON0.out⟩
          case round =>
            clear HOK0 HON0 HBE
            obtain ⟨k, hk, rfl, hok, hon⟩ := hrel
            have HOK := Lib.hid hok
            have HON := Lib.hid hon
            clear hok hon
            by_cases hlt : k < n
            · have hlt' : (k : Int) < (n : Int) := by omega
              obtain ⟨va0, hca2, hra2⟩ := HLA2.out.2 k hlt
              obtain ⟨vb0, hcb2, hrb2⟩ := HLB.out.2 k hlt
              rw [Nat.zero_add] at hca2 hcb2
              obtain ⟨xa, da, rfl, _, hoa⟩ := hra2.own (by rw [(HRA.out.mon H1.out hlt).1]; omega)
              obtain ⟨xb, db, rfl, _, hob⟩ := hrb2.own (by rw [(HRB.out.mon H1.out hlt).1]; omega)
              rw [(HRA.out.mon H1.out hlt).1] at hca2
              rw [(HRB.out.mon H1.out hlt).1] at hcb2
              have hxa : xa < w2.heap.size := hoa.1
              have hxb : xb < w2.heap.size := hob.1
              have ca' := (HON.out.cell (p := ⟨ga, k, none⟩) (by show ga ≠ w2.heap.size; omega)).trans ((HBX'.out ⟨ga, k, none⟩ hga).trans hca2)
              have cb' := (HON.out.cell (p := ⟨gb, k, none⟩) (by show gb ≠ w2.heap.size; omega)).trans ((HBX'.out ⟨gb, k, none⟩ hgb).trans hcb2)
              have za := (HON.out.cell (p := ⟨xa, j, none⟩) (by show xa ≠ w2.heap.size; omega)).trans ((HBX'.out ⟨xa, j, none⟩ hxa).trans (hoa.cell (j := j) (by rw [(HRA.out.mon H1.out hlt).1]; exact hjl)))
              have zb := (HON.out.cell (p := ⟨xb, j, none⟩) (by show xb ≠ w2.heap.size; omega)).trans ((HBX'.out ⟨xb, j, none⟩ hxb).trans (hob.cell (j := j) (by rw [(HRB.out.mon H1.out hlt).1]; exact hjl)))
              have hjL : j < (dltP oa ob nl n j k).length := by rw [dltP_len]; exact hjl
              have xj := HOK.out.cell hjL
              have sf := HOK.out.free hjL
              rw [dltP_at oa ob hjl] at xj
              have bx := dltN_bd (nl := nl) (n := n) (i := j) (fun q hq => (HRA.out.mon H1.out hq).2 j hjl) (fun q hq => (HRB.out.mon H1.out hq).2 j hjl) k (by omega)
              have by' := monB_iff.1 ((HRB.out.mon H1.out hlt).2 j hjl)
              have bz := monB_iff.1 ((HRA.out.mon H1.out hlt).2 j hjl)
              obtain ⟨x, hx⟩ : ∃ x, dltN oa ob j k = x := ⟨_, rfl⟩
              obtain ⟨y, hy⟩ : ∃ y, nth (outN ob k) j = y := ⟨_, rfl⟩
              obtain ⟨z, hz⟩ : ∃ z, nth (outN oa k) j = z := ⟨_, rfl⟩
              rw [hx] at xj bx
              rw [hy] at zb by'
              rw [hz] at za bz
              have HX : Hid (dltN oa ob j (k + 1) = x + (y - z)) := Lib.hid (by rw [dltN, hx, hy, hz])
              have i1 : IntKind.i64.wrap (y - z) = y - z := IntWalk.i64_in _ (by omega)
              have i2 : IntKind.i64.wrap (x + (y - z)) = x + (y - z) := IntWalk.i64_in _ (by omega)
              have HSET := Lib.hid (HOK.out.set hjL (x + (y - z)))
              have wa : (wr.setCell ⟨w2.heap.size, j, none⟩ (.int .i64 (x + (y - z)))).cell? ⟨ga, k, none⟩ = some (.slice (some ⟨xa, 0, none⟩) nl da) := (World.cell?_setCell_far wr ⟨w2.heap.size, j, none⟩ ⟨ga, k, none⟩ _ (by show w2.heap.size ≠ ga; omega)).trans ca'
              have wb : (wr.setCell ⟨w2.heap.size, j, none⟩ (.int .i64 (x + (y - z)))).cell? ⟨gb, k, none⟩ = some (.slice (some ⟨xb, 0, none⟩) nl db) := (World.cell?_setCell_far wr ⟨w2.heap.size, j, none⟩ ⟨gb, k, none⟩ _ (by show w2.heap.size ≠ gb; omega)).trans cb'
              have va : (wr.setCell ⟨w2.heap.size, j, none⟩ (.int .i64 (x + (y - z)))).cell? ⟨xa, j, none⟩ = some (.int .i64 z) := (World.cell?_setCell_far wr ⟨w2.heap.size, j, none⟩ ⟨xa, j, none⟩ _ (by show w2.heap.size ≠ xa; omega)).trans za
              have vb : (wr.setCell ⟨w2.heap.size, j, none⟩ (.int .i64 (x + (y - z)))).cell? ⟨xb, j, none⟩ = some (.int .i64 y) := (World.cell?_setCell_far wr ⟨w2.heap.size, j, none⟩ ⟨xb, j, none⟩ _ (by show w2.heap.size ≠ xb; omega)).trans zb
              clear hoa hob hca2 hcb2 hra2 hrb2 hx hy hz bx by' bz hjL
              go_wp2_with fail
              refine wp_region_held_drew (S := fun w' => w'.cell? ⟨gb, k, none⟩ = some (.slice (some ⟨xb, 0, none⟩) nl db) ∧ w'.cell? ⟨xb, j, none⟩ = some (.int .i64 y) ∧ w'.cell? ⟨ga, k, none⟩ = some (.slice (some ⟨xa, 0, none⟩) nl da) ∧ w'.cell? ⟨xa, j, none⟩ = some (.int .i64 z)) (by kernel_rfl) ?_ (fun hHeld => ?_)
              · exact ⟨cb', zb, ca', za⟩
              refine wpAnyH_take (i := 0) (oi := _) (v := .slice (some ⟨w2.heap.size, 0, none⟩) nl nl) rfl (by kernel_rfl) (by kernel_rfl) (by kernel_rfl) (fun _ _ _ h => h) (Or.inl ⟨by rfl, fun w hSw => ?_⟩) (by assumption) ?_
              · ((try dsimp only at hSw); go_simp; try with_reducible rfl)
              try simp only [Act.put, List.setIfInBounds_toArray, List.set_cons_zero, List.set_cons_succ]
              refine wpAnyH_take (i := 1) (oi := _) (v := .int .i64 j) rfl (by kernel_rfl) (by kernel_rfl) (by kernel_rfl) (fun _ _ _ h => h) (Or.inl ⟨by rfl, fun w hSw => ?_⟩) (by assumption) ?_
              · ((try dsimp only at hSw); go_simp; try with_reducible rfl)
              try simp only [Act.put, List.setIfInBounds_toArray, List.set_cons_zero, List.set_cons_succ]
              refine wpAnyH_take (i := 2) (oi := _) (v := .pointer (some ⟨w2.heap.size, j, none⟩)) rfl (by kernel_rfl) (by kernel_rfl) (by kernel_rfl) (fun _ _ _ h => h) (Or.inl ⟨by rfl, fun w hSw => ?_⟩) (by assumption) ?_
              · ((try dsimp only at hSw); go_simp; try with_reducible rfl)
              try simp only [Act.put, List.setIfInBounds_toArray, List.set_cons_zero, List.set_cons_succ]
              refine wpAnyH_take (i := 4) (oi := _) (v := .slice (some ⟨gb, 0, none⟩) n cb) rfl (by kernel_rfl) (by kernel_rfl) (by kernel_rfl) (fun _ _ _ h => h) (Or.inl ⟨by rfl, fun w hSw => ?_⟩) (by assumption) ?_
              · ((try dsimp only at hSw); go_simp; try with_reducible rfl)
              try simp only [Act.put, List.setIfInBounds_toArray, List.set_cons_zero, List.set_cons_succ]
              refine wpAnyH_take (i := 5) (oi := _) (v := .int .i64 k) rfl (by kernel_rfl) (by kernel_rfl) (by kernel_rfl) (fun _ _ _ h => h) (Or.inl ⟨by rfl, fun w hSw => ?_⟩) (by assumption) ?_
              · ((try dsimp only at hSw); go_simp; try with_reducible rfl)
              try simp only [Act.put, List.setIfInBounds_toArray, List.set_cons_zero, List.set_cons_succ]
              refine wpAnyH_take (i := 6) (oi := _) (v := .pointer (some ⟨gb, k, none⟩)) rfl (by kernel_rfl) (by kernel_rfl) (by kernel_rfl) (fun _ _ _ h => h) (Or.inl ⟨by rfl, fun w hSw => ?_⟩) (by assumption) ?_
              · ((try dsimp only at hSw); go_simp; try with_reducible rfl)
              try simp only [Act.put, List.setIfInBounds_toArray, List.set_cons_zero, List.set_cons_succ]
              refine wpAnyH_take (i := 7) (oi := _) (v := .slice (some ⟨xb, 0, none⟩) nl db) rfl (by kernel_rfl) (by kernel_rfl) (by kernel_rfl) (fun _ _ _ h => h) (Or.inl ⟨by rfl, fun w hSw => ?_⟩) (by assumption) ?_
              · ((try dsimp only at hSw); go_simp; try with_reducible rfl)
              try simp only [Act.put, List.setIfInBounds_toArray, List.set_cons_zero, List.set_cons_succ]
              refine wpAnyH_take (i := 8) (oi := _) (v := .int .i64 j) rfl (by kernel_rfl) (by kernel_rfl) (by kernel_rfl) (fun _ _ _ h => h) (Or.inl ⟨by rfl, fun w hSw => ?_⟩) (by assumption) ?_
              · ((try dsimp only at hSw); go_simp; try with_reducible rfl)
              try simp only [Act.put, List.setIfInBounds_toArray, List.set_cons_zero, List.set_cons_succ]
              refine wpAnyH_take (i := 9) (oi := _) (v := .pointer (some ⟨xb, j, none⟩)) rfl (by kernel_rfl) (by kernel_rfl) (by kernel_rfl) (fun _ _ _ h => h) (Or.inl ⟨by rfl, fun w hSw => ?_⟩) (by assumption) ?_
              · ((try dsimp only at hSw); go_simp; try with_reducible rfl)
              try simp only [Act.put, List.setIfInBounds_toArray, List.set_cons_zero, List.set_cons_succ]
              refine wpAnyH_take (i := 10) (oi := _) (v := .int .i64 y) rfl (by kernel_rfl) (by kernel_rfl) (by kernel_rfl) (fun _ _ _ h => h) (Or.inl ⟨by rfl, fun w hSw => ?_⟩) (by assumption) ?_
              · ((try dsimp only at hSw); go_simp; try with_reducible rfl)
              try simp only [Act.put, List.setIfInBounds_toArray, List.set_cons_zero, List.set_cons_succ]
              refine wpAnyH_take (i := 11) (oi := _) (v := .slice (some ⟨ga, 0, none⟩) n ca) rfl (by kernel_rfl) (by kernel_rfl) (by kernel_rfl) (fun _ _ _ h => h) (Or.inl ⟨by rfl, fun w hSw => ?_⟩) (by assumption) ?_
              · ((try dsimp only at hSw); go_simp; try with_reducible rfl)
              try simp only [Act.put, List.setIfInBounds_toArray, List.set_cons_zero, List.set_cons_succ]
              refine wpAnyH_take (i := 12) (oi := _) (v := .int .i64 k) rfl (by kernel_rfl) (by kernel_rfl) (by kernel_rfl) (fun _ _ _ h => h) (Or.inl ⟨by rfl, fun w hSw => ?_⟩) (by assumption) ?_
              · ((try dsimp only at hSw); go_simp; try with_reducible rfl)
              try simp only [Act.put, List.setIfInBounds_toArray, List.set_cons_zero, List.set_cons_succ]
              refine wpAnyH_take (i := 13) (oi := _) (v := .pointer (some ⟨ga, k, none⟩)) rfl (by kernel_rfl) (by kernel_rfl) (by kernel_rfl) (fun _ _ _ h => h) (Or.inl ⟨by rfl, fun w hSw => ?_⟩) (by assumption) ?_
              · ((try dsimp only at hSw); go_simp; try with_reducible rfl)
              try simp only [Act.put, List.setIfInBounds_toArray, List.set_cons_zero, List.set_cons_succ]
              refine wpAnyH_take (i := 14) (oi := _) (v := .slice (some ⟨xa, 0, none⟩) nl da) rfl (by kernel_rfl) (by kernel_rfl) (by kernel_rfl) (fun _ _ _ h => h) (Or.inl ⟨by rfl, fun w hSw => ?_⟩) (by assumption) ?_
              · ((try dsimp only at hSw); go_simp; try with_reducible rfl)
              try simp only [Act.put, List.setIfInBounds_toArray, List.set_cons_zero, List.set_cons_succ]
              refine wpAnyH_take (i := 15) (oi := _) (v := .int .i64 j) rfl (by kernel_rfl) (by kernel_rfl) (by kernel_rfl) (fun _ _ _ h => h) (Or.inl ⟨by rfl, fun w hSw => ?_⟩) (by assumption) ?_
              · ((try dsimp only at hSw); go_simp; try with_reducible rfl)
              try simp only [Act.put, List.setIfInBounds_toArray, List.set_cons_zero, List.set_cons_succ]
              refine wpAnyH_take (i := 16) (oi := _) (v := .pointer (some ⟨xa, j, none⟩)) rfl (by kernel_rfl) (by kernel_rfl) (by kernel_rfl) (fun _ _ _ h => h) (Or.inl ⟨by rfl, fun w hSw => ?_⟩) (by assumption) ?_
              · ((try dsimp only at hSw); go_simp; try with_reducible rfl)
              try simp only [Act.put, List.setIfInBounds_toArray, List.set_cons_zero, List.set_cons_succ]
              refine wpAnyH_take (i := 17) (oi := _) (v := .int .i64 z) rfl (by kernel_rfl) (by kernel_rfl) (by kernel_rfl) (fun _ _ _ h => h) (Or.inl ⟨by rfl, fun w hSw => ?_⟩) (by assumption) ?_
              · ((try dsimp only at hSw); go_simp; try with_reducible rfl)
              try simp only [Act.put, List.setIfInBounds_toArray, List.set_cons_zero, List.set_cons_succ]
              refine wpAnyH_take (i := 18) (oi := _) (v := .int .i64 (y - z)) rfl (by kernel_rfl) (by kernel_rfl) (by kernel_rfl) (fun _ _ _ h => h) (Or.inl ⟨by rfl, fun w hSw => ?_⟩) (by assumption) ?_
              · ((try dsimp only at hSw); go_simp; try with_reducible rfl)
              try simp only [Act.put, List.setIfInBounds_toArray, List.set_cons_zero, List.set_cons_succ]
              refine wpAnyH_ready (rs := [3]) (by kernel_rfl) (by simp) ?_
              refine AllReadyH.cons rfl (fun K hK => ?_) AllReadyH.nil
              go_simp
              refine hK.out _ _ ⟨cb', zb, ca', za⟩ (fun hHeld => ?_)
              clear hK K
              try simp only [Act.put, List.setIfInBounds_toArray, List.set_cons_zero, List.set_cons_succ]
              refine wpAnyH_take (i := 19) (oi := _) (v := .int .i64 (x + (y - z))) rfl (by kernel_rfl) (by kernel_rfl) (by kernel_rfl) (fun _ _ _ h => h) (Or.inl ⟨by rfl, fun w hSw => ?_⟩) (by assumption) ?_
              · ((try dsimp only at hSw); go_simp; try with_reducible rfl)
              try simp only [Act.put, List.setIfInBounds_toArray, List.set_cons_zero, List.set_cons_succ]
              refine wpAnyH_take (i := 20) (oi := _) (v := .pointer (some ⟨w2.heap.size, j, none⟩)) rfl (by kernel_rfl) (by kernel_rfl) (by kernel_rfl) (fun _ _ _ h => h) (Or.inl ⟨by rfl, fun w hSw => ?_⟩) (by assumption) ?_
              · ((try dsimp only at hSw); go_simp; try with_reducible rfl)
              try simp only [Act.put, List.setIfInBounds_toArray, List.set_cons_zero, List.set_cons_succ]
              refine wpAnyH_ready (rs := [21]) (by kernel_rfl) (by simp) ?_
              refine AllReadyH.cons rfl (fun K hK => ?_) AllReadyH.nil
              go_simp
              refine hK.out _ _ ⟨wb, vb, wa, va⟩ (fun hHeld => ?_)
              clear hK K
              refine wpAnyH_done (by kernel_rfl) ?_ _
              go_wp2_with fail
              go_roundw
              case rel => exact ⟨k + 1, by omega, by go_num, by rw [← dltP_set oa ob hjl, HX.out]; exact HSET.out, (HON.out.set j _).drew⟩
              case measure => simp [intOf]; omega
            · obtain rfl : k = n := by omega
              have hkB : decide ((k : Int) < (k : Int)) = false := decide_eq_false (by omega)
              have xj := HOK.out.cell (j := j) (by rw [dltP_len]; exact hjl)
              rw [dltP_at oa ob hjl] at xj
              obtain ⟨z, hz⟩ : ∃ z, dltN oa ob j k = z := ⟨_, rfl⟩
              rw [hz] at xj
              have HZ := Lib.hid hz
              clear hz
              cases hfar : farB oa ob k j with
              | true =>
                have HFN : Hid (farB oa ob k (j + 1) = true) := Lib.hid (by rw [farB, hfar]; rfl)
                clear hfar
                go_wp2_with fail
                go_roundw
                case rel => exact ⟨j + 1, by omega, by go_num, by rw [HFN.out], by rw [← dltP_next]; exact HOK.out, HON.out⟩
                case measure => simp [intOf]; omega
              | false =>
                have HFN : Hid (farB oa ob k (j + 1) = !monB z) := Lib.hid (by rw [farB, hfar, HZ.out]; rfl)
                clear hfar
                go_wp2_with (first | (go_at_call 47; refine (isMoney_ref _ _).mono ?_; rintro e w' ⟨rfl, h'⟩; subst w'))
                go_roundw
                case rel => exact ⟨j + 1, by omega, by go_num, by rw [HFN.out], by rw [← dltP_next]; exact HOK.out, HON.out⟩
                case measure => simp [intOf]; omega
        · obtain rfl : j = nl := by omega
          have hjB : decide ((j : Int) < (j : Int)) = false := decide_eq_false (by omega)
          cases hfar : farB oa ob n j with
          | true =>
            obtain ⟨i, hi, hmi⟩ := farB_yes hfar
            have HMI := Lib.hid hmi
            clear hmi hfar
            go_wp2_with fail
            refine bodyPost_ret (v := .tuple #[(.slice none 0 0), .int .i64 3]) (by simp [results, Tryz.results23, go_sem] <;> rfl) rfl ?_
            exact ⟨_, _, rfl, .inl ⟨by omega, rfl, .inr (.inr ⟨rfl, HPL.out, HAA.out, HAB.out, h60, n, ya, sa, oa, yb, sb, ob, hna, HRA.out, HRB.out, i, hi, HMI.out⟩)⟩, HBE.out⟩
          | false =>
            have HMM := Lib.hid (farB_no hfar)
            clear hfar
            go_wp2_with fail
            refine bodyPost_ret (v := .tuple #[(.slice (some ⟨w2.heap.size, 0, none⟩) j j), .int .i64 0]) (by simp [results, Tryz.results23, go_sem] <;> rfl) rfl ?_
            exact ⟨_, _, rfl, .inr ⟨rfl, HPL.out, HAA.out, HAB.out, h60, n, ya, sa, oa, yb, sb, ob, w2.heap.size, hna, HRA.out, HRB.out, HMM.out, rfl, by rw [← dltP_all]; exact HOK0.out⟩, HBE.out⟩
end Go.Proofs.YtonceehdmnkffaaGreatDoor
