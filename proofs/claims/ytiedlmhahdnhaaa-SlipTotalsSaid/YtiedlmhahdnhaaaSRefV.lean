/-
  Promise R3: the walks of the reference's SlipAt, voids and VoidSlip.
-/
import Derived.Test.YtiedlmhahdnhaaaSBegun
namespace Go.Proofs.Ytiedlmhahdnhaaa
open Go.RowKit Go.Sort

set_option maxRecDepth 100000 in
set_option maxHeartbeats 1000000 in
theorem slipAt_ref (a : Option Addr) (n cap : Nat) (l : List Sl) (x : Int) (w : World) (hc : CameS w a l) (hn : l.length = n) (hm : n ≤ 200) :
    Calls Try.prog 25 #[.slice a n cap, .int .i64 x] w fun e w' => e = .returned (.int .i64 (idxV l x)) ∧ w' = w := by
  have HO := Lib.hid (fun h0 => hc.open hn h0)
  have HN := Lib.hid hn
  clear hc hn
  go_enter Try.func25, Try.ntmps25
  go_wp2_with fail
  go_loopw [5] (fun i wr => ∃ k : Nat, k ≤ n ∧ i = .int .i64 k ∧ (∀ j, j < k → (snth l j).num ≠ x) ∧ wr = w) (fun i _ => n - (intOf i).toNat)
  case atStart => exact ⟨0, Nat.zero_le _, rfl, fun j hj => by omega, rfl⟩
  case round =>
    obtain ⟨k, hk, rfl, hall, rfl⟩ := hrel
    have HA := Lib.hid hall
    clear hall
    by_cases hlt : k < n
    · have hlt' : (k : Int) < (n : Int) := by omega
      obtain ⟨b, off, rfl, hcell⟩ := HO.out (by omega)
      obtain ⟨⟨x0, -⟩, -⟩ := hcell _ (Below.refl _ _) k hlt
      clear hcell
      by_cases he : (snth l k).num = x
      · have he' : ((snth l k).num == x) = true := by simp [he]
        have HE : Hid (idxV l x = (k : Int)) := Lib.hid (by
          unfold idxV
          rw [fstN_at HA.out (by rw [HN.out]; exact hlt) he, if_pos (by rw [HN.out]; exact hlt)])
        obtain ⟨u, hu⟩ : ∃ u, (snth l k).num = u := ⟨_, rfl⟩
        rw [hu] at x0 he'
        clear he hu
        go_wp2_with fail
        go_ret
        exact ⟨kret_int HE.out.symm, rfl⟩
      · have he' : ((snth l k).num == x) = false := by simp [he]
        have HE := Lib.hid he
        obtain ⟨u, hu⟩ : ∃ u, (snth l k).num = u := ⟨_, rfl⟩
        rw [hu] at x0 he'
        clear he hu
        go_wp2_with fail
        go_roundw
        case rel =>
          refine ⟨k + 1, by omega, by go_num, ?_, (by first | trivial | rfl)⟩
          intro j hj
          by_cases e : j = k
          · subst e; exact HE.out
          · exact HA.out j (by omega)
        case measure => simp [intOf]; omega
    · have hkn : k = n := by omega
      subst hkn
      have HE : Hid (idxV l x = -1) := Lib.hid (by
        unfold idxV
        rw [fstN_none (fun j hj => HA.out j (by rw [HN.out] at hj; exact hj)), if_neg (by omega)])
      go_wp2_with fail
      go_ret
      exact ⟨kret_int HE.out.symm, rfl⟩
/-- One int ahead of a row of ints. -/
theorem run_prep (W : World) (ty : TypeId) (B : Nat) (x : Int) (u : Value) (l : List Int) (g0 : Nat) (hg0 : g0 = W.heap.size) (hu : Grow W B u l) (hl : l.length ≤ 1000) (hB : B ≤ W.heap.size) :
    ∃ v' w', (Builtin.append_ #[35, 35] ty #[.slice (some ⟨g0, 0, none⟩) 1 1, u]).run Try.prog (W.alloc (.cells #[.int .i64 x] 3)) = .ok v' w' ∧ Grow w' B v' (x :: l) ∧ Go.RowKit.Below W.heap.size W w' := by
  subst hg0
  obtain ⟨i0, hi, hz0, hz1, hz2⟩ := info_parts info_i
  have hown : (W.alloc (.cells #[.int .i64 x] 3)).ownsRow B 3 1 (.slice (some ⟨W.heap.size, 0, none⟩) 1 1) 1 [.int .i64 x] := ⟨by simp, .inr ⟨W.heap.size, 1, #[.int .i64 x], rfl, hB, heap_alloc_new W _, by omega, by simp [maxLen], by simp, by simp⟩⟩
  rcases hu.2 with ⟨rfl, h0⟩ | ⟨g, c, cur, rfl, hg, _⟩
  · have h1 : l = [] := List.eq_nil_of_length_eq_zero h0
    subst h1
    exact ⟨_, _, run_append_owned_none (P := Try.prog) _ B 35 ty 3 i0 1 Try.underlying35 hi _ 1 _ hown, hown, kbelow_box W _⟩
  · have hcells : ∀ j u, (l.map (Value.int .i64))[j]? = some u → (W.alloc (.cells #[.int .i64 x] 3)).cell? ((⟨g, 0, none⟩ : Addr).add j) = some u := fun j u hj => by
      have hc := World.ownsRow.cells hu (g := g) rfl j u hj
      rw [(kbelow_box W _).cell (oblt_of_cell hc)]
      exact hc
    obtain ⟨v', w', hr, h2, h3, _, h5⟩ := run_append_own_at (P := Try.prog) (W.alloc (.cells #[.int .i64 x] 3)) B 35 ty 3 i0 _ 1 8 Try.underlying35 hi hz0 hz1 hz2 rfl (by decide) _ 1 _ hown ⟨g, 0, none⟩ l.length c (l.map (Value.int .i64)) (by simp) hcells (fun u hu => by obtain ⟨z, _, rfl⟩ := List.mem_map.1 hu; rfl) (by unfold maxLen; omega) (by omega) (by simp; omega)
    refine ⟨v', w', hr, ?_, ((kbelow_box W _).grown h3 (by simp) fun k hk => ?_)⟩
    · unfold Grow
      rw [Nat.add_comm] at h2
      simpa using h2
    · simp [Value.ownBlock] at hk
      omega
/-- The slips with a person's from a place up to another one void, and their numbers. -/
def vr (l : List Sl) (p : Int) (s d : Nat) : List Sl := (List.range l.length).map fun j => if (s ≤ j ∧ j < d) ∧ mt p (snth l j) = true then goneS (snth l j) else snth l j
theorem vr_len (l : List Sl) (p : Int) (s d : Nat) : (vr l p s d).length = l.length := by simp [vr]
theorem snth_vr {l : List Sl} {p : Int} {s d j : Nat} (hj : j < l.length) : snth (vr l p s d) j = if (s ≤ j ∧ j < d) ∧ mt p (snth l j) = true then goneS (snth l j) else snth l j := by
  have e : ∀ f : Nat → Sl, snth ((List.range l.length).map f) j = f j := fun f => by
    unfold snth
    simp [List.getD_eq_getElem?_getD, hj]
  exact e _
theorem vr_none (l : List Sl) (p : Int) (s : Nat) : vr l p s s = l := by
  refine snth_ext (vr_len _ _ _ _) fun j hj => ?_
  rw [vr_len] at hj
  rw [snth_vr hj, if_neg (by omega)]
theorem vr_all (l : List Sl) (p : Int) (s : Nat) : vr l p s l.length = vd l p s := by
  refine snth_ext (by rw [vr_len, vd_len]) fun j hj => ?_
  rw [vr_len] at hj
  rw [snth_vr hj, snth_vd hj]
  by_cases h : s ≤ j ∧ mt p (snth l j) = true
  · rw [if_pos h, if_pos ⟨⟨h.1, hj⟩, h.2⟩]
  · rw [if_neg h, if_neg (fun h2 => h ⟨h2.1.1, h2.2⟩)]
theorem vr_no {l : List Sl} {p : Int} {s d : Nat} (h : mt p (snth l d) = false) : vr l p s (d + 1) = vr l p s d := by
  refine snth_ext (by rw [vr_len, vr_len]) fun j hj => ?_
  rw [vr_len] at hj
  rw [snth_vr hj, snth_vr hj]
  by_cases e : j = d
  · subst e
    rw [h, if_neg (by simp), if_neg (by simp)]
  · by_cases h1 : (s ≤ j ∧ j < d) ∧ mt p (snth l j) = true
    · rw [if_pos h1, if_pos ⟨⟨h1.1.1, by omega⟩, h1.2⟩]
    · rw [if_neg h1, if_neg (fun h2 => h1 ⟨⟨h2.1.1, by omega⟩, h2.2⟩)]
theorem vr_yes {l : List Sl} {p : Int} {s d : Nat} (hd : d < l.length) (hs : s ≤ d) (h : mt p (snth l d) = true) : ∀ j, j < (vr l p s d).length → snth (vr l p s (d + 1)) j = if j = d then goneS (snth (vr l p s d) d) else snth (vr l p s d) j := by
  intro j hj
  rw [vr_len] at hj
  rw [snth_vr hj, snth_vr hj, snth_vr hd, if_neg (c := (s ≤ d ∧ d < d) ∧ _) (by omega)]
  by_cases e : j = d
  · subst e
    rw [if_pos rfl, if_pos ⟨⟨hs, by omega⟩, h⟩]
  · rw [if_neg e]
    by_cases h1 : (s ≤ j ∧ j < d) ∧ mt p (snth l j) = true
    · rw [if_pos h1, if_pos ⟨⟨h1.1.1, by omega⟩, h1.2⟩]
    · rw [if_neg h1, if_neg (fun h2 => h1 ⟨⟨h2.1.1, by omega⟩, h2.2⟩)]
def gr (l : List Sl) (p : Int) (s d : Nat) : List Int := ((((l.take d).drop s).filter (mt p)).map Sl.num).reverse
theorem stake_snoc {l : List Sl} {k : Nat} (h : k < l.length) : l.take (k + 1) = l.take k ++ [snth l k] := by
  rw [List.take_add_one, List.getElem?_eq_getElem h]
  simp [snth, List.getD_eq_getElem?_getD, h]
theorem gr_none (l : List Sl) (p : Int) (s : Nat) : gr l p s s = [] := by
  unfold gr
  rw [List.drop_eq_nil_of_le (by rw [List.length_take]; omega)]
  rfl
theorem gr_all (l : List Sl) (p : Int) (s : Nat) : gr l p s l.length = gn l p s := by unfold gr gn; rw [List.take_length]
theorem gr_step {l : List Sl} {p : Int} {s d : Nat} (hd : d < l.length) (hs : s ≤ d) : gr l p s (d + 1) = if mt p (snth l d) = true then (snth l d).num :: gr l p s d else gr l p s d := by
  unfold gr
  rw [stake_snoc hd, List.drop_append_of_le_length (by rw [List.length_take]; omega), List.filter_append, List.map_append, List.reverse_append]
  by_cases h : mt p (snth l d) = true
  · rw [if_pos h]; simp [h]
  · rw [if_neg h]; simp [h]
theorem gr_len (l : List Sl) (p : Int) (s d : Nat) : (gr l p s d).length ≤ l.length := by
  unfold gr
  rw [List.length_reverse, List.length_map]
  refine Nat.le_trans (List.length_filter_le _ _) ?_
  rw [List.length_drop, List.length_take]
  omega
set_option maxRecDepth 100000 in
set_option maxHeartbeats 4000000 in
theorem voids_ref (a : Option Addr) (n cap : Nat) (l : List Sl) (fi : Nat) (w : World) (hc : CameS w a l) (hn : l.length = n) (hf : fi < n) (h2 : n ≤ 200) :
    Calls Try.prog 40 #[.slice a n cap, .int .i64 fi] w fun e w' => ∃ g c u D, e = .returned (.tuple #[.slice (some ⟨g, 0, none⟩) n c, u]) ∧ OwnS w' w.heap.size D 0 (.slice (some ⟨g, 0, none⟩) n c) (vd l (snth l fi).per fi) ∧ Grow w' w.heap.size u (gn l (snth l fi).per fi) ∧ Go.RowKit.Below w.heap.size w w' ∧ w.heap.size ≤ g ∧ ∀ b off, a = some ⟨b, off, none⟩ → ∀ j, j < n → w'.cell? ⟨g, j * 5 + 4, none⟩ = w.cell? ⟨b, off + j * 5 + 4, none⟩ := by
  have HN := Lib.hid hn
  have HO := Lib.hid (fun h0 => hc.open hn h0)
  obtain ⟨A, hsrc, hA⟩ := cellS_of hc hn
  obtain ⟨b, off, rfl, hsrc2⟩ : ∃ b off, a = some ⟨b, off, none⟩ ∧ ∀ j, j < n * 5 → w.cell? ⟨b, off + j, none⟩ = some (cellS l A j) := by
    rcases hsrc with h | h
    · omega
    · exact h
  have HA := Lib.hid hA
  have HS2 := Lib.hid hsrc2
  have HB0 := Lib.hid (kbelow_box w (.cells #[] 44))
  have HSRC : Hid (n = 0 ∨ ∃ b' off', (⟨b, off, none⟩ : Addr) = ⟨b', off', none⟩ ∧ ∀ j, j < n * 5 → (w.alloc (.cells #[] 44)).cell? ⟨b', off' + j, none⟩ = some (cellS l A j)) := .inr ⟨b, off, rfl, fun j hj => by
    rw [HB0.out.cell (p := ⟨b, off + j, none⟩) (oblt_of_cell (hsrc2 j hj))]
    exact hsrc2 j hj⟩
  have HG0 := Lib.hid (World.ownsRow_made (w := w) (base := w.heap.size) (e := 44) (size := 5) #[] 0 (Nat.le_refl _) (Nat.zero_le _) rfl)
  obtain ⟨p, hp⟩ : ∃ p, (snth l fi).per = p := ⟨_, rfl⟩
  have HP := Lib.hid hp
  rw [hp]
  clear hc hn hsrc hsrc2 hA hp
  go_enter Try.func40, Try.ntmps40
  go_wp2_with (first | (at_builtin; refine wpList_run_app _ rfl _ _ _ rfl rfl rfl (run_cloneSl _ _ w.heap.size HG0.out ⟨b, off, none⟩ n cap (cellS l A) HSRC.out (cellS_one l A) (by omega)) ?_; rintro v' w1 ⟨hcl, hbel⟩; refine Hid.out ?_))
  have hb1 := HB0.out.trans hbel
  obtain ⟨x, c, rfl, hown⟩ := own_of_clone hcl HN.out HA.out hb1
  obtain ⟨g, rfl, -, hBg, hgD, -⟩ := hown.at (by have := HN.out; omega)
  have HT0 : Hid (∀ j, j < n → w1.cell? ⟨g, j * 5 + 4, none⟩ = w.cell? ⟨b, off + j * 5 + 4, none⟩) := Lib.hid (fun j hj => by
    rcases hcl with ⟨e, _⟩ | ⟨g2, c2, e, _, _, hcc⟩
    · cases e
    · cases e
      have := HS2.out (j * 5 + 4) (by omega)
      rw [(hcc (j * 5 + 4) (by omega)).1, show off + j * 5 + 4 = off + (j * 5 + 4) by omega, this])
  have HO1 := Lib.hid hown
  have HB1 := Lib.hid hb1
  have HBG := Lib.hid hBg
  obtain ⟨D, hD⟩ : ∃ D, w1.heap.size = D := ⟨_, rfl⟩
  have HD := Lib.hid hD
  rw [hD] at HO1 hgD
  have HGD := Lib.hid hgD
  clear hcl hbel hb1 hown hBg HSRC HG0 HB0 HA hD hgD
  refine Lib.hid ?_
  go_wp2_with fail
  go_loopw [7, 8] (fun v i wr => ∃ d : Nat, fi ≤ d ∧ d ≤ n ∧ i = .int .i64 d ∧ Grow wr D v (gr l p fi d) ∧ OwnS wr w.heap.size D 0 (.slice (some ⟨g, 0, none⟩) n c) (vr l p fi d) ∧ Go.RowKit.Below w.heap.size w wr ∧ D ≤ wr.heap.size ∧ ∀ j, j < n → wr.cell? ⟨g, j * 5 + 4, none⟩ = w.cell? ⟨b, off + j * 5 + 4, none⟩) (fun _ i _ => n - (intOf i).toNat)
  case atStart => exact ⟨fi, Nat.le_refl _, by omega, rfl, by rw [gr_none]; exact Grow.nil _ _, by rw [vr_none]; exact HO1.out, HB1.out, by rw [HD.out]; exact Nat.le_refl _, HT0.out⟩
  case round =>
    clear HO1 HB1 HD
    obtain ⟨d, hd1, hd2, rfl, hgr, hrow, hb, hDs, ht4⟩ := hrel
    have HT4 := Lib.hid ht4
    have HGR := Lib.hid hgr
    have HR := Lib.hid hrow
    have HB := Lib.hid hb
    have HDS := Lib.hid hDs
    clear hgr hrow hb hDs ht4 HT0
    by_cases hlt : d < n
    · have hqn : (d : Int) < (n : Int) := by omega
      have hfn : (fi : Int) < (n : Int) := by omega
      have HQ : Hid (d < l.length) := Lib.hid (by rw [HN.out]; omega)
      have HFI : Hid (fi < l.length) := Lib.hid (by rw [HN.out]; omega)
      obtain ⟨g', e', -, -, -, -, hrr, hfz⟩ := HR.out.at (by rw [vr_len]; have := HQ.out; omega)
      cases e'
      obtain ⟨⟨y0, y1, -, y3⟩, -⟩ := hrr d (by rw [vr_len]; exact HQ.out)
      rw [snth_vr HQ.out, if_neg (by omega)] at y0 y1 y3
      obtain ⟨b', off', e', hcell⟩ := HO.out (by omega)
      cases e'
      obtain ⟨⟨-, z1, -, -⟩, -⟩ := hcell wr HB.out fi hf
      rw [HP.out] at z1
      have hf3 := hfz d 3 (by rw [vr_len]; exact HQ.out) (by omega)
      have HMT : Hid (mt p (snth l d) = (((snth l d).per == p) && !(snth l d).gone)) := rfl
      have HY := Lib.hid (gr_step (p := p) HQ.out hd1)
      have HPG := Lib.hid (fun h => HR.out.putGone (k := d) (by rw [vr_len]; exact HQ.out) (by rw [vr_len, vr_len]) (vr_yes (p := p) HQ.out hd1 h))
      have HVN := Lib.hid (fun h => vr_no (l := l) (p := p) (s := fi) (d := d) h)
      have HGL := Lib.hid (gr_len l p fi d)
      clear hrr hfz hcell
      cases hper : ((snth l d).per == p)
      · have hm0 : mt p (snth l d) = false := by rw [HMT.out, hper]; rfl
        rw [hm0, if_neg (by decide)] at HY
        have HV1 := Lib.hid (HVN.out hm0)
        clear hm0 HPG HVN HMT
        go_wp2_with fail
        go_quiet (fail)
        go_wp2_with fail
        go_roundw
        case rel => exact ⟨d + 1, by omega, by omega, by go_num, by rw [HY.out]; exact HGR.out.drewN _, by rw [HV1.out]; exact HR.out.below (B2 := D) ⟨rfl, rfl, rfl, Nat.le_refl _, fun _ _ => rfl⟩ (Nat.le_refl _), kbelow_dN HB.out _, HDS.out, HT4.out⟩
        case measure => simp [intOf] <;> omega
      · cases hgo : (snth l d).gone
        · have hm1 : mt p (snth l d) = true := by rw [HMT.out, hper, hgo]; rfl
          rw [hm1, if_pos rfl] at HY
          have HV1 := Lib.hid (HPG.out hm1)
          rw [hgo] at y3
          clear hm1 HPG HVN HMT
          obtain ⟨nu, hnu⟩ : ∃ nu, (snth l d).num = nu := ⟨_, rfl⟩
          rw [hnu] at y0 HY
          clear hnu
          go_wp2_with fail
          go_quiet (fail)
          go_wp2_with (at_builtin; refine wpList_run_app _ rfl _ _ _ rfl rfl rfl (run_prep _ _ D nu _ (gr l p fi d) wr.heap.size ?hg0 ?hgw ?hl ?hB) ?_; rotate_right; rintro v9 w9 ⟨hg9, hb9⟩; refine Hid.out ?_)
          case hg0 => simp [World.drewN]
          case hgw => exact (HGR.out.drewN _).set HGD.out _ _
          case hl => have := HGL.out; rw [HN.out] at this; omega
          case hB => have := HDS.out; simpa [World.drewN] using this
          have HW9 := Lib.hid (HV1.out.below (B2 := D) (Below.trans (show Go.RowKit.Below D (wr.setCell ⟨g, d * 5 + 3, none⟩ (.bool true)) ((wr.drewN _).setCell ⟨g, d * 5 + 3, none⟩ (.bool true)) from ⟨rfl, rfl, rfl, Nat.le_refl _, fun _ _ => rfl⟩) (hb9.mono (by have := HDS.out; simpa [World.drewN] using this))) (Nat.le_refl _))
          have HB9 := Lib.hid (((HB.out.setCell (p := ⟨g, d * 5 + 3, none⟩) HBG.out (.bool true)).trans (show Go.RowKit.Below w.heap.size (wr.setCell ⟨g, d * 5 + 3, none⟩ (.bool true)) ((wr.drewN _).setCell ⟨g, d * 5 + 3, none⟩ (.bool true)) from ⟨rfl, rfl, rfl, Nat.le_refl _, fun _ _ => rfl⟩)).trans (hb9.mono (by have := HB.out.size; simpa [World.drewN] using this)))
          have HD9 : Hid (D ≤ w9.heap.size) := Lib.hid (Nat.le_trans (by have := HDS.out; simpa [World.drewN] using this) hb9.size)
          have HT9 : Hid (∀ j, j < n → w9.cell? ⟨g, j * 5 + 4, none⟩ = w.cell? ⟨b, off + j * 5 + 4, none⟩) := Lib.hid (fun j hj => by
            rw [hb9.cell (p := ⟨g, j * 5 + 4, none⟩) (show g < _ from Nat.lt_of_lt_of_le HGD.out (by have := HDS.out; simpa [World.drewN] using this)), World.cell?_setCell_other (h := fun e => by injection e; omega)]
            exact HT4.out j hj)
          have HG9 := Lib.hid hg9
          clear hg9 hb9 y0 y1 y3 z1 hf3
          refine Lib.hid ?_
          go_wp2_with fail
          go_roundw
          case rel => exact ⟨d + 1, by omega, by omega, by go_num, by rw [HY.out]; exact HG9.out, HW9.out, HB9.out, HD9.out, HT9.out⟩
          case measure => simp [intOf] <;> omega
        · have hm0 : mt p (snth l d) = false := by rw [HMT.out, hper, hgo]; rfl
          rw [hm0, if_neg (by decide)] at HY
          have HV1 := Lib.hid (HVN.out hm0)
          rw [hgo] at y3
          clear hm0 HPG HVN HMT
          go_wp2_with fail
          go_quiet (fail)
          go_wp2_with fail
          go_roundw
          case rel => exact ⟨d + 1, by omega, by omega, by go_num, by rw [HY.out]; exact HGR.out.drewN _, by rw [HV1.out]; exact HR.out.below (B2 := D) ⟨rfl, rfl, rfl, Nat.le_refl _, fun _ _ => rfl⟩ (Nat.le_refl _), kbelow_dN HB.out _, HDS.out, HT4.out⟩
          case measure => simp [intOf] <;> omega
    · have hde : d = n := by omega
      subst hde
      rw [← HN.out, gr_all] at HGR
      rw [← HN.out, vr_all, HN.out] at HR
      have HBD : Hid (w.heap.size ≤ D) := Lib.hid (Nat.le_trans HBG.out (Nat.le_of_lt HGD.out))
      have HG2 : Hid (Grow wr w.heap.size _ (gn l p fi)) := Lib.hid (by
        obtain ⟨q1, q2⟩ := HGR.out
        refine ⟨q1, q2.imp id ?_⟩
        rintro ⟨g1, cap1, cur1, e1, e2, r⟩
        exact ⟨g1, cap1, cur1, e1, Nat.le_trans HBD.out e2, r⟩)
      go_wp2_with fail
      go_ret2
      exact ⟨_, _, _, _, rfl, HR.out, HG2.out, HB.out, HBG.out, fun b' off' e j hj => by cases e; exact HT4.out j hj⟩
end Go.Proofs.Ytiedlmhahdnhaaa
