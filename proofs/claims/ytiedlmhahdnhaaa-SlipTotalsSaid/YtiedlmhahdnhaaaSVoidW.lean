/-
  Promise R3: the walks of voidFrom and Void.
-/
import Derived.Test.YtiedlmhahdnhaaaSVoid
namespace Go.Proofs.Ytiedlmhahdnhaaa
open Go.RowKit Go.Sort

/-- Does it stand, and is it this person's? -/
def mt (p : Int) (r : Sl) : Bool := (r.per == p) && !r.gone
/-- The slips with all of a person's from a place on void. -/
def vd (l : List Sl) (p : Int) (d : Nat) : List Sl := (List.range l.length).map fun j => if d ≤ j ∧ mt p (snth l j) = true then goneS (snth l j) else snth l j
theorem vd_len (l : List Sl) (p : Int) (d : Nat) : (vd l p d).length = l.length := by simp [vd]
theorem snth_vd {l : List Sl} {p : Int} {d j : Nat} (hj : j < l.length) : snth (vd l p d) j = if d ≤ j ∧ mt p (snth l j) = true then goneS (snth l j) else snth l j := by
  have e : ∀ f : Nat → Sl, snth ((List.range l.length).map f) j = f j := fun f => by
    unfold snth
    simp [List.getD_eq_getElem?_getD, hj]
  exact e _
/-- The numbers of those that become void, the last one first. -/
def gn (l : List Sl) (p : Int) (d : Nat) : List Int := (((l.drop d).filter (mt p)).map Sl.num).reverse
theorem drop_snth {l : List Sl} {q : Nat} (hq : q < l.length) : l.drop q = snth l q :: l.drop (q + 1) := by
  rw [List.drop_eq_getElem_cons hq]
  simp [snth, List.getD_eq_getElem?_getD, hq]
theorem gn_yes {l : List Sl} {p : Int} {q : Nat} (hq : q < l.length) (h : mt p (snth l q) = true) : gn l p q = gn l p (q + 1) ++ [(snth l q).num] := by
  unfold gn
  rw [drop_snth hq, List.filter_cons, if_pos h]
  simp
theorem gn_no {l : List Sl} {p : Int} {q : Nat} (hq : q < l.length) (h : mt p (snth l q) = false) : gn l p q = gn l p (q + 1) := by
  unfold gn
  rw [drop_snth hq, List.filter_cons, if_neg (by simp [h])]
theorem vd_no {l : List Sl} {p : Int} {q : Nat} (h : mt p (snth l q) = false) : vd l p q = vd l p (q + 1) := by
  refine snth_ext (by rw [vd_len, vd_len]) fun j hj => ?_
  rw [vd_len] at hj
  rw [snth_vd hj, snth_vd hj]
  by_cases e : j = q
  · subst e
    rw [h, if_neg (by simp), if_neg (by simp)]
  · by_cases h1 : q ≤ j ∧ mt p (snth l j) = true
    · rw [if_pos h1, if_pos ⟨by omega, h1.2⟩]
    · rw [if_neg h1, if_neg (fun h2 => h1 ⟨by omega, h2.2⟩)]
theorem vd_yes {l : List Sl} {p : Int} {q : Nat} (hq : q < l.length) (h : mt p (snth l q) = true) : ∀ j, j < (vd l p (q + 1)).length → snth (vd l p q) j = if j = q then goneS (snth (vd l p (q + 1)) q) else snth (vd l p (q + 1)) j := by
  intro j hj
  rw [vd_len] at hj
  rw [snth_vd hj, snth_vd hj, snth_vd hq, if_neg (c := q + 1 ≤ q ∧ _) (by omega)]
  by_cases e : j = q
  · subst e
    rw [if_pos rfl, if_pos ⟨Nat.le_refl _, h⟩]
  · rw [if_neg e]
    by_cases h1 : q ≤ j ∧ mt p (snth l j) = true
    · rw [if_pos h1, if_pos ⟨by omega, h1.2⟩]
    · rw [if_neg h1, if_neg (fun h2 => h1 ⟨by omega, h2.2⟩)]
theorem vd_all (l : List Sl) (p : Int) : vd l p l.length = l := by
  refine snth_ext (vd_len _ _ _) fun j hj => ?_
  rw [vd_len] at hj
  rw [snth_vd hj, if_neg (by omega)]
theorem gn_all (l : List Sl) (p : Int) : gn l p l.length = [] := by unfold gn; simp
theorem gn_len (l : List Sl) (p : Int) (d : Nat) : (gn l p d).length ≤ l.length := by
  unfold gn
  rw [List.length_reverse, List.length_map]
  exact Nat.le_trans (List.length_filter_le _ _) (by simp)
theorem grown_set (w : World) (a : Addr) (u : Value) : w.grownBy (w.setCell a u) (some a.block) :=
  ⟨rfl, rfl, rfl, by simp, fun k _ hk => Below.heap_setCell _ _ _ k (fun e => hk (by rw [e]))⟩
theorem Grow.set {w : World} {B : Nat} {v : Value} {l : List Int} (h : Grow w B v l) {g : Nat} (hg : g < B) (o : Nat) (u : Value) : Grow (w.setCell ⟨g, o, none⟩ u) B v l := by
  refine World.ownsRow.kept h (grown_set w ⟨g, o, none⟩ u) ?_
  cases hv : v.ownBlock with
  | none => exact .inl rfl
  | some k =>
    refine .inr fun e => ?_
    have h1 := (Grow.lt h _ hv).1
    have h2 : k = g := by simpa using e
    omega
/-- Behind a store: drawn, and more is made. -/
theorem kbelow_dA {B : Nat} {w : World} (p : Addr) (u : Value) (k : Nat) (o : Obj) (hB : B ≤ w.heap.size) : Go.RowKit.Below B (w.setCell p u) (((w.drewN k).setCell p u).alloc o) :=
  Below.trans (show Go.RowKit.Below B (w.setCell p u) ((w.drewN k).setCell p u) from ⟨rfl, rfl, rfl, Nat.le_refl _, fun _ _ => rfl⟩) ((Below.refl B ((w.drewN k).setCell p u)).alloc (by simpa [World.drewN] using hB) o)
theorem grown_drew {a b : World} {row : Option Nat} (h : a.grownBy b row) (k : Nat) : a.grownBy (b.drewN k) row := ⟨h.os, h.tape, h.output, h.size, h.block⟩
theorem drew_grown {a b : World} {row : Option Nat} {k : Nat} (h : (a.drewN k).grownBy b row) : a.grownBy b row := ⟨h.os, h.tape, h.output, h.size, h.block⟩
theorem grown_below {a b : World} {g : Nat} (h : a.grownBy b (some g)) (hg : g ≤ a.heap.size) : Go.RowKit.Below g a b := ⟨h.os, h.tape, h.output, h.size, fun k hk => h.block k (by omega) (fun e => by injection e; omega)⟩
theorem OwnS.grown {w w' : World} {B D m : Nat} {v : Value} {l : List Sl} {row : Option Nat} (h : OwnS w B D m v l) (hg : w.grownBy w' row) (hr : ∀ i, row = some i → D ≤ i) : OwnS w' B D m v l := by
  rcases h with h | ⟨g, c, h1, h2, h3, h4, h5⟩
  · exact .inl h
  · exact OwnS.below (.inr ⟨g, c, h1, h2, h3, h4, h5⟩) (B2 := D) ⟨hg.os, hg.tape, hg.output, hg.size, fun i hi => hg.block i (by omega) (fun e => by have := hr i e.symm; omega)⟩ (Nat.le_refl _)
set_option maxRecDepth 100000 in
set_option maxHeartbeats 4000000 in
theorem voidFrom_any (g n cap : Nat) (l : List Sl) (fi B D m : Nat) (w : World) (hown : OwnS w B D m (.slice (some ⟨g, 0, none⟩) n cap) l) (hn : l.length = n) (hf : fi < n) (h2 : n ≤ 200) :
    Calls Try.prog 39 #[.slice (some ⟨g, 0, none⟩) n cap, .int .i64 fi] w fun e w' => ∃ v, e = .returned v ∧ Grow w' w.heap.size v (gn l (snth l fi).per fi) ∧ OwnS w' B D m (.slice (some ⟨g, 0, none⟩) n cap) (vd l (snth l fi).per fi) ∧ w.grownBy w' (some g) := by
  have HN := Lib.hid hn
  have HW0 := Lib.hid hown
  have hDW : g < D ∧ D ≤ w.heap.size := by
    obtain ⟨g', e, -, -, h3, h4, -⟩ := hown.at (by omega)
    cases e
    exact ⟨h3, h4⟩
  have HDW := Lib.hid hDW
  obtain ⟨p, hp⟩ : ∃ p, (snth l fi).per = p := ⟨_, rfl⟩
  have HP := Lib.hid hp
  rw [hp]
  clear hown hn hDW hp
  have hwn : IntKind.i64.wrap ((n : Int) - 1) = (n : Int) - 1 := IntWalk.i64_in _ (by omega)
  go_enter Try.func39, Try.ntmps39
  go_wp2_with fail
  go_loopw [5, 6] (fun v i wr => ∃ d : Nat, fi ≤ d ∧ d ≤ n ∧ i = .int .i64 ((d : Int) - 1) ∧ Grow wr w.heap.size v (gn l p d) ∧ OwnS wr B D m (.slice (some ⟨g, 0, none⟩) n cap) (vd l p d) ∧ w.grownBy wr (some g)) (fun _ i _ => (intOf i + 1).toNat)
  case atStart => exact ⟨n, by omega, Nat.le_refl _, rfl, by rw [← HN.out, gn_all]; exact Grow.nil _ _, by have := HW0.out; rw [← HN.out, vd_all, HN.out]; exact this, World.grownBy.refl _ _⟩
  case round =>
    obtain ⟨d, hd1, hd2, rfl, hgr, hrow, hb⟩ := hrel
    have HGR := Lib.hid hgr
    have HR := Lib.hid hrow
    have HB := Lib.hid hb
    clear hgr hrow hb
    by_cases hlt : fi < d
    · obtain ⟨q, rfl⟩ : ∃ q, d = q + 1 := ⟨d - 1, by omega⟩
      rw [show ((q + 1 : Nat) : Int) - 1 = (q : Int) by omega]
      have hge : (fi : Int) ≤ (q : Int) := by omega
      have hqn : (q : Int) < (n : Int) := by omega
      have hfn : (fi : Int) < (n : Int) := by omega
      have hwq : IntKind.i64.wrap ((q : Int) - 1) = (q : Int) - 1 := IntWalk.i64_in _ (by omega)
      have HQ : Hid (q < l.length) := Lib.hid (by rw [HN.out]; omega)
      have HFI : Hid (fi < l.length) := Lib.hid (by rw [HN.out]; omega)
      obtain ⟨g', e', -, -, -, -, hrr, hfz⟩ := HR.out.at (by rw [vd_len]; have := HQ.out; omega)
      cases e'
      obtain ⟨⟨y0, y1, -, y3⟩, -⟩ := hrr q (by rw [vd_len]; exact HQ.out)
      obtain ⟨⟨-, z1, -, -⟩, -⟩ := hrr fi (by rw [vd_len]; exact HFI.out)
      rw [snth_vd HQ.out, if_neg (by omega)] at y0 y1 y3
      rw [snth_vd HFI.out, if_neg (by omega), HP.out] at z1
      have hf3 := hfz q 3 (by rw [vd_len]; exact HQ.out) (by omega)
      have HMT : Hid (mt p (snth l q) = (((snth l q).per == p) && !(snth l q).gone)) := rfl
      have HY := Lib.hid (fun h => gn_yes (p := p) HQ.out h)
      have HPG := Lib.hid (fun h => HR.out.putGone (k := q) (by rw [vd_len]; exact HQ.out) (by rw [vd_len, vd_len]) (vd_yes (p := p) HQ.out h))
      have HNO := Lib.hid (fun h => gn_no (p := p) HQ.out h)
      have HVN := Lib.hid (fun h => vd_no (l := l) (p := p) (q := q) h)
      have HGL := Lib.hid (gn_len l p (q + 1))
      have hy0 := y0
      clear hrr hfz
      cases hper : ((snth l q).per == p)
      · have hm0 : mt p (snth l q) = false := by rw [HMT.out, hper]; rfl
        have HN1 := Lib.hid (HNO.out hm0)
        have HV1 := Lib.hid (HVN.out hm0)
        clear hm0 HY HPG HNO HVN HMT
        go_wp2_with fail
        go_quiet (fail)
        go_wp2_with fail
        go_roundw
        case rel => exact ⟨q, by omega, by omega, by first | rfl | (go_num) | trivial, by rw [HN1.out]; exact HGR.out.drewN _, by rw [HV1.out]; exact HR.out.below (B2 := D) ⟨rfl, rfl, rfl, Nat.le_refl _, fun _ _ => rfl⟩ (Nat.le_refl _), grown_drew HB.out _⟩
        case measure => simp [intOf] <;> omega
      · cases hgo : (snth l q).gone
        · have hm1 : mt p (snth l q) = true := by rw [HMT.out, hper, hgo]; rfl
          have HN1 := Lib.hid (HY.out hm1)
          have HV1 := Lib.hid (HPG.out hm1)
          rw [hgo] at y3
          clear hm1 HY HPG HNO HVN HMT
          have hsz : Hid (w.heap.size ≤ wr.heap.size) := HB.out.size
          obtain ⟨nu, hnu⟩ : ∃ nu, (snth l q).num = nu := ⟨_, rfl⟩
          rw [hnu] at y0 HN1
          clear hnu hy0
          go_wp2_with fail
          go_quiet (fail)
          go_wp2_with (at_builtin; refine wpList_app _ rfl _ _ rfl w.heap.size _ (gn l p (q + 1)) rfl ?hgw ⟨_, 0, none⟩ 1 nu rfl ?hz ?hl ?hB ?_; rotate_right; intro v9 w9 hg9 hgr9 hd9 hs9; refine Hid.out ?_)
          case hgw => exact ((HGR.out.drewN _).set (by have := HDW.out; omega) _ _).alloc _
          case hz => exact (World.cell?_alloc_at _ _ _ _ (by simp [World.drewN])).trans rfl
          case hl => have := HGL.out; rw [HN.out] at this; omega
          case hB => have := hsz.out; simp; omega
          have HW9 := Lib.hid ((HV1.out.below (B2 := D) (kbelow_dA _ _ _ _ (Nat.le_trans HDW.out.2 hsz.out)) (Nat.le_refl _)).grown hgr9 (fun i hi => by have := (HGR.out.lt i hi).1; have := HDW.out; omega))
          have HB9 := Lib.hid (((HB.out.trans (drew_grown (grown_set (wr.drewN nq) ⟨g, q * 5 + 3, none⟩ (.bool true)))).trans (World.grownBy_alloc _ _ _)).andThen hgr9 (fun i hi => .inl (HGR.out.lt i hi).1))
          have HG9 := Lib.hid hg9
          clear hg9 hgr9 hd9 hs9 y0 y1 y3 z1 hf3
          refine Lib.hid ?_
          go_wp2_with fail
          go_roundw
          case rel => exact ⟨q, by omega, by omega, rfl, by rw [HN1.out]; exact HG9.out, HW9.out, HB9.out⟩
          case measure => simp [intOf] <;> omega
        · have hm0 : mt p (snth l q) = false := by rw [HMT.out, hper, hgo]; rfl
          have HN1 := Lib.hid (HNO.out hm0)
          have HV1 := Lib.hid (HVN.out hm0)
          rw [hgo] at y3
          clear hm0 HY HPG HNO HVN HMT
          go_wp2_with fail
          go_quiet (fail)
          go_wp2_with fail
          go_roundw
          case rel => exact ⟨q, by omega, by omega, by first | rfl | (go_num) | trivial, by rw [HN1.out]; exact HGR.out.drewN _, by rw [HV1.out]; exact HR.out.below (B2 := D) ⟨rfl, rfl, rfl, Nat.le_refl _, fun _ _ => rfl⟩ (Nat.le_refl _), grown_drew HB.out _⟩
          case measure => simp [intOf] <;> omega
    · have hde : d = fi := by omega
      subst hde
      have hnl : decide ((d : Int) ≤ (d : Int) - 1) = false := decide_eq_false (by omega)
      go_wp2_with fail
      go_ret
      exact ⟨_, rfl, HGR.out, HR.out, HB.out⟩
/-- What Void answers: the error, the slips, the numbers. -/
def voidE (l : List Sl) (x : Int) (c : Bool) : Int := if slE l = 0 then (if fstN l x < l.length then (if (snth l (fstN l x)).gone = true then 4 else if 1 < (gn l (snth l (fstN l x)).per (fstN l x)).length ∧ c = false then 10 else 0) else 5) else slE l
def voidL (l : List Sl) (x : Int) : List Sl := vd l (snth l (fstN l x)).per (fstN l x)
def voidG (l : List Sl) (x : Int) : List Int := gn l (snth l (fstN l x)).per (fstN l x)
/-- Ints that lie in a slice. -/
def CameI (w : World) (v : Value) (l : List Int) : Prop := ∃ x c, v = .slice x l.length c ∧ (l.length ≤ c ∧ c ≤ maxLen) ∧ (l.length = 0 ∨ ∃ b off, x = some ⟨b, off, none⟩ ∧ At w b off l)
theorem Grow.came {w : World} {B : Nat} {v : Value} {l : List Int} (h : Grow w B v l) : CameI w v l := by
  have hh := h
  rcases h.2 with ⟨e, h0⟩ | ⟨g, c, cur, e, _, _, hn, hm, _⟩
  · exact ⟨none, 0, by rw [e, h0], ⟨by omega, Nat.zero_le _⟩, .inl h0⟩
  · refine ⟨_, c, e, ⟨hn, hm⟩, ?_⟩
    by_cases h0 : 0 < l.length
    · obtain ⟨g', c', e', _, ho⟩ := hh.own h0
      rw [e] at e'
      cases e'
      exact .inr ⟨g, 0, rfl, ho.at⟩
    · exact .inl (by omega)
theorem CameI.below {w w' : World} {v : Value} {l : List Int} (h : CameI w v l) (hb : Go.RowKit.Below w.heap.size w w') : CameI w' v l := by
  obtain ⟨x, c, e, hc, h⟩ := h
  refine ⟨x, c, e, hc, ?_⟩
  rcases h with h | ⟨b, off, e, h⟩
  · exact .inl h
  · exact .inr ⟨b, off, e, h.below hb h.1⟩
/-- What comes of Void: where an error is told, nothing beside it. -/
def VoidRet (w' : World) (B : Nat) (v u : Value) (l : List Sl) (x : Int) (c : Bool) : Prop :=
  (voidE l x c ≠ 0 → v = .slice none 0 0 ∧ u = .slice none 0 0) ∧ (voidE l x c = 0 → (∃ D, OwnS w' B D l.length v (voidL l x)) ∧ CameI w' u (voidG l x))
theorem slE_ok {l : List Sl} (h : slE l = 0) : l.length ≤ 200 ∧ (∀ r ∈ l, slW r = 0) ∧ upS l = true := by
  unfold slE at h
  split at h
  · cases h
  · rename_i h2
    split at h
    · rename_i h0
      refine ⟨by omega, slsW_zero h0, ?_⟩
      cases hu : upS l
      · rw [hu] at h; simp at h
      · rfl
    · rename_i h0
      exact absurd h h0
theorem slW_ok {r : Sl} (h : slW r = 0) : perB r.num = true ∧ perB r.per = true ∧ perB r.run = true ∧ r.tot.length ≤ 30 ∧ ansB r.tot = true ∧ assB r.tot = true ∧ upN (fun j => (anth r.tot j).name) r.tot.length = true := by
  unfold slW at h
  split at h
  · cases h
  · rename_i h1
    split at h
    · cases h
    · rename_i h2
      split at h
      · cases h
      · rename_i h3
        split at h
        · cases h
        · rename_i h4
          split at h
          · cases h
          · rename_i h5
            refine ⟨?_, ?_, ?_, by omega, by simpa using h3, by simpa using h4, by simpa using h5⟩
            · cases e : perB r.num
              · exact absurd (.inl e) h1
              · rfl
            · cases e : perB r.per
              · exact absurd (.inr (.inl e)) h1
              · rfl
            · cases e : perB r.run
              · exact absurd (.inr (.inr e)) h1
              · rfl
theorem slE_tot {l : List Sl} (h : slE l = 0) (j : Nat) (hj : j < l.length) : (snth l j).tot.length ≤ 30 := (slW_ok ((slE_ok h).2.1 _ (snth_mem hj))).2.2.2.1
set_option maxRecDepth 100000 in
set_option maxHeartbeats 2000000 in
theorem Void_any (a : Option Addr) (n cap : Nat) (l : List Sl) (x : Int) (c : Bool) (w : World) (hc : CameS w a l) (hn : l.length = n) :
    Calls Try.prog 17 #[.slice a n cap, .int .i64 x, .bool c] w fun e w' => ∃ v u, e = .returned (.tuple #[v, u, .int .i64 (voidE l x c)]) ∧ VoidRet w' w.heap.size v u l x c ∧ Go.RowKit.Below w.heap.size w w' := by
  have HC := Lib.hid hc
  have HN := Lib.hid hn
  have HE : Hid (voidE l x c = if slE l = 0 then (if fstN l x < l.length then (if (snth l (fstN l x)).gone = true then 4 else if 1 < (gn l (snth l (fstN l x)).per (fstN l x)).length ∧ c = false then 10 else 0) else 5) else slE l) := rfl
  have HI : Hid (idxV l x = if fstN l x < l.length then (fstN l x : Int) else -1) := rfl
  have HB0 := Lib.hid (kbelow_box w (.cells #[.int .i64 x] 3))
  clear hc hn
  go_enter Try.func17, Try.ntmps17
  go_wp2_with fail
  refine (Check_any a n cap l _ (HC.out.below HB0.out) HN.out).mono ?_
  rintro e w1 ⟨rfl, hb1⟩
  have HB1 := Lib.hid (HB0.out.trans (hb1.mono HB0.out.size))
  have hx1 : w1.cell? ⟨w.heap.size, 0, none⟩ = some (.int .i64 x) := (hb1.cell (p := ⟨w.heap.size, 0, none⟩) (by simp)).trans (by simp)
  clear hb1
  by_cases h0 : slE l = 0
  · have H0 := Lib.hid h0
    rw [if_pos h0] at HE
    rw [h0]
    have HL : Hid (n ≤ 200) := Lib.hid (by rw [← HN.out]; exact (slE_ok h0).1)
    clear h0
    go_wp2_with fail
    refine (indexNum a n cap l x w.heap.size _ (HC.out.below HB1.out) HN.out HL.out hx1).mono ?_
    rintro e w2 ⟨rfl, hb2⟩
    have HB2 := Lib.hid (HB1.out.trans (hb2.mono HB1.out.size))
    clear hb2 hx1
    by_cases hf : fstN l x < l.length
    · rw [if_pos hf] at HE HI
      rw [HI.out]
      have HF := Lib.hid hf
      obtain ⟨k, hk⟩ : ∃ k, fstN l x = k := ⟨_, rfl⟩
      have HK := Lib.hid hk
      rw [hk] at HE HF
      rw [hk]
      rw [HN.out] at hf
      rw [hk] at hf
      have hk1 : (k : Int) < (n : Int) := by omega
      have hk0 : decide ((k : Int) < 0) = false := decide_eq_false (by omega)
      clear hk HI
      obtain ⟨b, off, rfl, hcell⟩ := HC.out.open HN.out (by omega)
      obtain ⟨⟨-, -, -, x3⟩, -⟩ := hcell w2 HB2.out k hf
      clear hcell
      cases hg : (snth l k).gone
      · rw [hg] at x3
        rw [hg, if_neg (by decide)] at HE
        clear hg
        go_wp2_with fail
        refine (copied_any _ n cap l _ (HC.out.below HB2.out) HN.out HL.out (fun j hj => slE_tot H0.out j (by rw [HN.out]; exact hj))).mono ?_
        rintro e w3 ⟨y, cy, D, rfl, hown, hb3⟩
        obtain ⟨g, rfl, -, hBg, hgD, hDW, -⟩ := hown.at (by have := HF.out; omega)
        have HGW : Hid (g ≤ w3.heap.size) := Lib.hid (by omega)
        have HW3 := Lib.hid hown
        have HBG := Lib.hid hBg
        have HB3 := Lib.hid (HB2.out.trans (hb3.mono HB2.out.size))
        clear hown hb3 hBg x3 hgD hDW
        go_wp2_with fail
        refine (voidFrom_any g n cy l k w2.heap.size D n _ HW3.out HN.out hf HL.out).mono ?_
        rintro e w4 ⟨v, rfl, hgr, hown4, hb4⟩
        have hbg : w.heap.size ≤ g := Nat.le_trans HB2.out.size HBG.out
        have HB4 := Lib.hid (HB3.out.trans ((grown_below hb4 HGW.out).mono hbg))
        obtain ⟨xv, cv, ev, hat⟩ := hgr.came
        subst ev
        have HCI : Hid (CameI w4 (.slice xv (gn l (snth l k).per k).length cv) (gn l (snth l k).per k)) := ⟨xv, cv, rfl, hat⟩
        have HW4 : Hid (OwnS w4 w.heap.size D n (.slice (some ⟨g, 0, none⟩) n cy) (vd l (snth l k).per k)) := by
          rcases hown4 with h | ⟨g', c', e1, e2, e3⟩
          · exact .inl h
          · exact .inr ⟨g', c', e1, Nat.le_trans HB2.out.size e2, e3.1, e3.2.1, fun j hj => by
              obtain ⟨q1, a1, c1, q2, q3, q4, q5⟩ := e3.2.2.1 j hj
              refine ⟨q1, a1, c1, q2, q3, q4, fun hm => ?_⟩
              rcases q5 hm with q | ⟨b1, o1, r1, r2, r3⟩
              · exact .inl q
              · exact .inr ⟨b1, o1, r1, Nat.le_trans HB2.out.size r2, r3⟩, e3.2.2.2⟩
        clear hgr hown4 hb4 hat hbg
        by_cases h1 : 1 < (gn l (snth l k).per k).length
        · have h1' : (1 : Int) < ((gn l (snth l k).per k).length : Int) := by omega
          cases c
          · rw [if_pos ⟨h1, rfl⟩] at HE
            generalize (gn l (snth l k).per k).length = mm at *
            go_wp2_with fail
            refine bodyPost_ret (v := .tuple #[.slice none 0 0, .slice none 0 0, .int .i64 _]) (by simp [results, Try.results17, go_sem] <;> rfl) rfl ?_
            rw [HE.out]
            exact ⟨_, _, rfl, ⟨fun _ => ⟨rfl, rfl⟩, fun h => absurd h (by rw [HE.out]; decide)⟩, HB4.out⟩
          · rw [if_neg (by simp)] at HE
            go_wp2_with fail
            refine bodyPost_ret (v := .tuple #[.slice (some ⟨g, 0, none⟩) n cy, .slice xv (gn l (snth l k).per k).length cv, .int .i64 0]) (by simp [results, Try.results17, go_sem] <;> rfl) rfl ?_
            rw [HE.out]
            exact ⟨_, _, rfl, ⟨fun h => absurd HE.out h, fun _ => ⟨⟨D, by unfold voidL; rw [HK.out, HN.out]; exact HW4.out⟩, by unfold voidG; rw [HK.out]; exact HCI.out⟩⟩, HB4.out⟩
        · have h1' : decide ((1 : Int) < ((gn l (snth l k).per k).length : Int)) = false := decide_eq_false (by omega)
          rw [if_neg (fun h => h1 h.1)] at HE
          go_wp2_with fail
          refine bodyPost_ret (v := .tuple #[.slice (some ⟨g, 0, none⟩) n cy, .slice xv (gn l (snth l k).per k).length cv, .int .i64 0]) (by simp [results, Try.results17, go_sem] <;> rfl) rfl ?_
          rw [HE.out]
          exact ⟨_, _, rfl, ⟨fun h => absurd HE.out h, fun _ => ⟨⟨D, by unfold voidL; rw [HK.out, HN.out]; exact HW4.out⟩, by unfold voidG; rw [HK.out]; exact HCI.out⟩⟩, HB4.out⟩
      · rw [hg] at x3
        rw [hg, if_pos rfl] at HE
        clear hg
        go_wp2_with fail
        refine bodyPost_ret (v := .tuple #[.slice none 0 0, .slice none 0 0, .int .i64 _]) (by simp [results, Try.results17, go_sem] <;> rfl) rfl ?_
        rw [HE.out]
        exact ⟨_, _, rfl, ⟨fun _ => ⟨rfl, rfl⟩, fun h => absurd h (by rw [HE.out]; decide)⟩, HB2.out⟩
    · rw [if_neg hf] at HE HI
      rw [HI.out]
      clear hf HI
      go_wp2_with fail
      refine bodyPost_ret (v := .tuple #[.slice none 0 0, .slice none 0 0, .int .i64 _]) (by simp [results, Try.results17, go_sem] <;> rfl) rfl ?_
      rw [HE.out]
      exact ⟨_, _, rfl, ⟨fun _ => ⟨rfl, rfl⟩, fun h => absurd h (by rw [HE.out]; decide)⟩, HB2.out⟩
  · rw [if_neg h0] at HE
    have H0 := Lib.hid h0
    have h0' : (slE l != 0) = true := by simp [h0]
    obtain ⟨cc, hcc⟩ : ∃ c, slE l = c := ⟨_, rfl⟩
    rw [hcc] at HE h0' ⊢
    have HCC := Lib.hid hcc
    clear h0 hcc
    go_wp2_with fail
    refine bodyPost_ret (v := .tuple #[.slice none 0 0, .slice none 0 0, .int .i64 _]) (by simp [results, Try.results17, go_sem] <;> rfl) rfl ?_
    rw [HE.out]
    exact ⟨_, _, rfl, ⟨fun _ => ⟨rfl, rfl⟩, fun h => absurd (HCC.out.trans (HE.out.symm.trans h)) H0.out⟩, HB1.out⟩
end Go.Proofs.Ytiedlmhahdnhaaa
