/-
  Promise D3: the walk of the reference's StretchesOf.
-/
import Derived.Test.YtjokgohnpnhhdaaHStrW
import Derived.ArgAppend
namespace Go.Proofs.Ytjokgohnpnhhdaa
open Go.RowKit

/-- The reference's list: of its own, or with no room behind it. -/
def RefS (w : World) (B : Nat) (v : Value) (L : List Rw) : Prop :=
  GrowS w B v L ∨ ∃ g, v = .slice (some ⟨g, 0, none⟩) L.length L.length ∧ B ≤ g ∧ RAt w g 0 L ∧ ∀ j, j < L.length * 4 → w.frozen? ⟨g, j, none⟩ = false
theorem RefS.below {w w' : World} {B : Nat} {v : Value} {L : List Rw} (h : RefS w B v L) (hb : Below w.heap.size w w') : RefS w' B v L := by
  rcases h with h | ⟨g, h1, h2, h3, h4⟩
  · exact .inl (h.below hb)
  · exact .inr ⟨g, h1, h2, h3.below hb h3.1, fun j hj => (hb.frozen (p := ⟨g, j, none⟩) h3.1).trans (h4 j hj)⟩
theorem RefS.alloc {w : World} {B : Nat} {v : Value} {L : List Rw} (h : RefS w B v L) (o : Obj) : RefS (w.alloc o) B v L := h.below ((Below.refl _ _).alloc (Nat.le_refl _) o)
theorem RefS.form {w : World} {B : Nat} {v : Value} {L : List Rw} (h : RefS w B v L) : (v = .slice none 0 0 ∧ L = []) ∨ ∃ g c, v = .slice (some ⟨g, 0, none⟩) L.length c ∧ B ≤ g ∧ RAt w g 0 L ∧ (∀ j, j < L.length * 4 → w.frozen? ⟨g, j, none⟩ = false) ∧ L.length ≤ c := by
  rcases h with h | ⟨g, h1, h2, h3, h4⟩
  · have hh := h
    rcases h.form with h | ⟨g, c, h1, h2, h3⟩
    · exact .inl h
    · subst h1
      refine .inr ⟨g, c, rfl, h2, h3, fun j _ => World.ownsRow.frozenAt hh j, ?_⟩
      rcases hh.2 with ⟨h4, _⟩ | ⟨g', c', cur, h4, _, _, h5, _⟩
      · cases h4
      · cases h4
        exact h5
  · exact .inr ⟨g, _, h1, h2, h3, h4, Nat.le_refl _⟩
/-- 'out = append(out, x)'. -/
theorem wpList_app_ref {ops : Array Oper} {rest : List Oper} {o : Oper} {a : Act} {Q : Exit → Act → World → Prop} (w : World) (hgd : o.guard = none) (s x : Operand)
    (ho : o.op = .call { callee := .builtin .append, args := #[s, x], argTypes := #[31, 31] })
    (B : Nat) (v : Value) (l : List Rw) (hs : a.eval s = v) (hown : RefS w B v l) (b c : Nat) (r : Rw) (hx : a.eval x = .slice (some ⟨b, 0, none⟩) 1 c) (hsrc : CameR w (some ⟨b, 0, none⟩) [r])
    (hb : l.length ≤ 1000000) (hB : B ≤ w.heap.size)
    (h : ∀ v' w', GrowS w' B v' (l ++ [r]) → Below B w w' → wpList Try.prog ops Q rest (a.put o.dst v') w') :
    wpList Try.prog ops Q (o :: rest) a w := by
  rcases hown with hown | ⟨g, h1, h2, h3, h4⟩
  · exact wpList_app_sts w hgd s x ho B v l hs hown _ 1 c [r] hx hsrc rfl (by omega) hB h
  · obtain ⟨i0, hi, hz0, hz1, hz2⟩ := info_parts st_info
    have hnews : ∀ j u, (cellsR [r])[j]? = some u → w.cell? ((⟨b, 0, none⟩ : Addr).add j) = some u := by
      intro j u hu
      rcases hsrc with h | ⟨b, off, he, hr⟩
      · simp at h
      · cases he
        rw [Addr.add_lit]
        exact holds_of_rat hr j u hu
    refine wpList_append_grows w hgd s x 31 ho 40 i0 _ 4 32 Try.underlying31 hi hz0 hz1 hz2 rfl (by decide) (some ⟨g, 0, none⟩) l.length l.length (cellsR l) (by rw [hs, h1]) (fun e => by cases e) (cellsR_length l)
      (fun b' e j u hu => by cases e; rw [Addr.add_lit]; exact holds_of_rat h3 j u hu) ⟨b, 0, none⟩ 1 c (cellsR [r]) hx rfl hnews (cellsR_one_cell [r]) (by omega) (by unfold maxLen; omega) (by omega) ?_
    intro v' w' h5 h6
    have hg5 : GrowS w' w.heap.size v' (l ++ [r]) := by
      unfold GrowS
      rw [List.length_append, cellsR_append]
      exact h5
    have hgB : GrowS w' B v' (l ++ [r]) := by
      obtain ⟨q1, q2⟩ := hg5
      refine ⟨q1, q2.imp id ?_⟩
      rintro ⟨g, cap, cur, e1, e2, r⟩
      exact ⟨g, cap, cur, e1, by omega, r⟩
    exact h v' w' hgB ((Below.refl B w).grown h6 hB fun k hk => by cases hk)
theorem cellsR_stored (M : List Rw) (x : Rw) (t : Int) : (cellsR (M ++ [x])).set (M.length * 4 + 1) (.int .i64 t) = cellsR (M ++ [⟨x.frm, t, x.val, x.gone⟩]) := by
  rw [cellsR_append, cellsR_append, cellsR_one, cellsR_one, List.set_append_right _ _ (by rw [cellsR_length]; omega), cellsR_length, show M.length * 4 + 1 - M.length * 4 = 1 from by omega]
  rfl
/-- The last stretch's To is set. -/
theorem RefS.stored {w : World} {B g c : Nat} {M : List Rw} {x : Rw} {v : Value} (h : RefS w B v (M ++ [x])) (hv : v = .slice (some ⟨g, 0, none⟩) (M.length + 1) c) (t : Int) : RefS (w.setCell ⟨g, M.length * 4 + 1, none⟩ (.int .i64 t)) B v (M ++ [⟨x.frm, t, x.val, x.gone⟩]) := by
  subst hv
  rcases h with h | ⟨g', h1, h2, h3, h4⟩
  · refine .inl ?_
    unfold GrowS at h ⊢
    rw [show (M ++ [x]).length = M.length + 1 from by simp] at h
    have h5 := (World.ownsRow.stored h (M.length * 4 + 1) (.int .i64 t)).1
    rw [cellsR_stored] at h5
    rw [show (M ++ [(⟨x.frm, t, x.val, x.gone⟩ : Rw)]).length = M.length + 1 from by simp]
    exact h5
  · obtain ⟨rfl, hc⟩ : g = g' ∧ c = M.length + 1 := by
      simp at h1
      omega
    subst hc
    refine .inr ⟨g, by simp, h2, ⟨by simpa using h3.1, fun j hj => ?_⟩, fun j hj => by rw [World.frozen?_setCell]; exact h4 j (by simpa using hj)⟩
    have hlen : (M ++ [(⟨x.frm, t, x.val, x.gone⟩ : Rw)]).length = M.length + 1 := by simp
    have hlen' : (M ++ [x]).length = M.length + 1 := by simp
    obtain ⟨a0, a1, a2, a3⟩ := h3.2 j (by omega)
    have ne : ∀ q, q ≠ M.length * 4 + 1 → (⟨g, M.length * 4 + 1, none⟩ : Addr) ≠ ⟨g, q, none⟩ := fun q hq e => by cases e; exact hq rfl
    by_cases e : j < M.length
    · rw [snoc_old M x e] at a0 a1 a2 a3
      rw [snoc_old M _ e]
      refine ⟨?_, ?_, ?_, ?_⟩
      · rw [World.cell?_setCell_other (h := ne _ (by omega))]; exact a0
      · rw [World.cell?_setCell_other (h := ne _ (by omega))]; exact a1
      · rw [World.cell?_setCell_other (h := ne _ (by omega))]; exact a2
      · rw [World.cell?_setCell_other (h := ne _ (by omega))]; exact a3
    · obtain rfl : j = M.length := by omega
      rw [snoc_new] at a0 a1 a2 a3
      rw [snoc_new]
      refine ⟨?_, ?_, ?_, ?_⟩
      · rw [World.cell?_setCell_other (h := ne _ (by omega))]; exact a0
      · rw [show 0 + M.length * 4 + 1 = M.length * 4 + 1 from by omega] at a1 ⊢
        exact World.cell?_setCell_same _ _ _ a1
      · rw [World.cell?_setCell_other (h := ne _ (by omega))]; exact a2
      · rw [World.cell?_setCell_other (h := ne _ (by omega))]; exact a3
/-- The reference's next day. -/
def NextR (l : List Rw) (d t : Int) (k : Nat) (p : Int) : Prop := d < p ∧ p ≤ t + 1 ∧ ∀ j, j < k → d < (rnth l j).frm → p ≤ (rnth l j).frm
/-- What it answers. -/
def StrRef (w : World) (l : List Rw) (f t s : Int) (e : Ending) (w' : World) : Prop := ∃ (v : Value) (L : List Rw), e = .returned v ∧ RefS w' w.heap.size v L ∧ Str (hvD l s) f L (t + 1) ∧ Below w.heap.size w w'
set_option maxRecDepth 100000 in
set_option maxHeartbeats 1000000 in
theorem stretches_ref (a : Option Addr) (n cap : Nat) (l : List Rw) (f t s : Int) (w : World) (hc : CameR w a l) (hn : l.length = n) (hm : n ≤ 50) (hok : rowsB l = true) (f0 : 0 ≤ f) (hft : f ≤ t) (t1 : t ≤ 73048) :
    Calls Try.prog 12 #[.slice a n cap, .int .i64 f, .int .i64 t, .int .i64 s] w fun e w' => StrRef w l f t s e w' := by
  have HC := Lib.hid hc
  have HN := Lib.hid hn
  have HOK := Lib.hid hok
  clear hc hn hok
  go_enter Try.func12, Try.ntmps12
  go_wp2_with fail
  go_loopw [9, 10] (fun ov dv wr => ∃ (L : List Rw) (x : Int), dv = .int .i64 x ∧ f ≤ x ∧ x ≤ t + 1 ∧ RefS wr w.heap.size ov L ∧ Str (hvD l s) f L x ∧ Below w.heap.size w wr) (fun _ dv _ => (73050 - intOf dv).toNat)
  case atStart => exact ⟨[], f, rfl, Int.le_refl _, by omega, .inl (GrowS.nil _ _), Str.nil _ _, Below.refl _ _⟩
  case round =>
    obtain ⟨L, x, rfl, hx0, hx1, hrf, hst, hb⟩ := hrel
    have HRF := Lib.hid hrf
    have HST := Lib.hid hst
    have HB := Lib.hid hb
    have hlen : (L.length : Int) ≤ 73049 := by have := Str.len _ _ _ rfl hst; omega
    clear hrf hst hb
    by_cases hle : x ≤ t
    · go_wp2_with fail
      refine (at_ref a n cap l x s _ (HC.out.below HB.out) HN.out hm HOK.out).mono ?_
      rintro e w2 ⟨rfl, hb2⟩
      have HB2 := Lib.hid (HB.out.trans (hb2.mono HB.out.size))
      have HRF2 := Lib.hid (HRF.out.below hb2)
      clear hb2 HRF HB
      have HV : Hid (hvD l s x = (atV (best l x s n), atS (best l x s n))) := by unfold Hid hvD; rw [HN.out]
      generalize atV (best l x s n) = v1 at *
      generalize atS (best l x s n) = b1 at *
      by_cases hL : L.length = 0
      · have H4 : Hid (∀ k, L.length = k + 1 → ((rnth L k).val, (rnth L k).gone) ≠ (v1, b1)) := fun k hk => by omega
        have HL0 := Lib.hid hL
        clear hL
        rcases HRF2.out.form with ⟨hu, hnil⟩ | ⟨g0, c0, hu, _, _, _, _⟩
        · subst hu
          clear hnil
          go_wp2_with (at_builtin; refine wpList_app_ref _ rfl _ _ rfl w.heap.size _ (L) rfl ?hgw w2.heap.size 1 ⟨x, 0, v1, b1⟩ rfl ?hcm ?hbd ?hB ?_; rotate_right; intro v9 w9 hg9 hb9; refine Hid.out ?_)
          case hgw => exact HRF2.out.alloc _
          case hcm => exact cameS_box w2 x 0 v1 b1
          case hbd => omega
          case hB => have := HB2.out.size; simp; omega
          obtain ⟨g', c', rfl, hr9⟩ : ∃ g c, v9 = .slice (some ⟨g, 0, none⟩) ((L).length + 1) c ∧ RAt w9 g 0 ((L) ++ [⟨x, 0, v1, b1⟩]) := by
            rcases hg9.form with ⟨_, h⟩ | ⟨g, c, h1, h2, h3⟩
            · simp at h
            · exact ⟨g, c, by rw [h1]; simp, h3⟩
          have HR : Hid (RefS w9 w.heap.size (.slice (some ⟨g', 0, none⟩) ((L).length + 1) c') ((L) ++ [⟨x, 0, v1, b1⟩])) := .inl hg9
          have HBQ := Lib.hid ((HB2.out.alloc HB2.out.size _).trans hb9)
          have HSM := HST
          have hzf : x ≤ x := Int.le_refl _
          have HZV : Hid (∀ j, x ≤ j → j ≤ x → hvD l s j = (v1, b1)) := fun j h1 h2 => by
            obtain rfl : j = x := by omega
            exact HV.out
          clear hg9 hb9 hr9 HRF2 HST HV HB2
          refine Lib.hid ?_
          go_wp2_with fail
          go_loop [13, 14] (fun pv iv => ∃ (k : Nat) (p : Int), k ≤ n ∧ iv = .int .i64 k ∧ pv = .int .i64 p ∧ NextR l x t k p) (fun _ iv => n - (intOf iv).toNat)
          case atStart => exact ⟨0, t + 1, Nat.zero_le _, rfl, rfl, ⟨by omega, by omega, fun j hj => by omega⟩⟩
          case round =>
            obtain ⟨k, p, hk, rfl, rfl, ⟨hp1, hp2, hp3⟩⟩ := hrel
            have HP3 := Lib.hid hp3
            clear hp3
            by_cases hlt : k < n
            · have hlt' : (k : Int) < (n : Int) := by omega
              obtain ⟨b, off, rfl, hcell⟩ := HC.out.open HN.out (by omega)
              obtain ⟨x0, _, _, _⟩ := hcell _ HBQ.out k hlt
              clear hcell
              by_cases e1 : x < (rnth l k).frm
              · have e1B : decide (x < (rnth l k).frm) = true := decide_eq_true e1
                by_cases e2 : (rnth l k).frm < p
                · have e2B : decide ((rnth l k).frm < p) = true := decide_eq_true e2
                  go_wp2_with fail
                  go_round
                  case rel => exact ⟨k + 1, _, by omega, by go_num, rfl, ⟨e1, by omega, fun j hj hd => by
                    rcases (show j < k ∨ j = k by omega) with h | rfl
                    · have := HP3.out j h hd; omega
                    · omega⟩⟩
                  case measure => simp [intOf]; omega
                · have e2B : decide ((rnth l k).frm < p) = false := decide_eq_false e2
                  go_wp2_with fail
                  go_round
                  case rel => exact ⟨k + 1, p, by omega, by go_num, rfl, ⟨hp1, hp2, fun j hj hd => by
                    rcases (show j < k ∨ j = k by omega) with h | rfl
                    · exact HP3.out j h hd
                    · omega⟩⟩
                  case measure => simp [intOf]; omega
              · have e1B : decide (x < (rnth l k).frm) = false := decide_eq_false e1
                go_wp2_with fail
                go_round
                case rel => exact ⟨k + 1, p, by omega, by go_num, rfl, ⟨hp1, hp2, fun j hj hd => by
                  rcases (show j < k ∨ j = k by omega) with h | rfl
                  · exact HP3.out j h hd
                  · omega⟩⟩
                case measure => simp [intOf]; omega
            · obtain rfl : k = n := by omega
              obtain ⟨gq, cq, hvq, hBq, hrq, hfq, _⟩ : ∃ gq cq, Value.slice (some (⟨g', 0, none⟩ : Addr)) ((L).length + 1) c' = .slice (some ⟨gq, 0, none⟩) ((L) ++ [(⟨x, 0, v1, b1⟩ : Rw)]).length cq ∧ w.heap.size ≤ gq ∧ RAt w9 gq 0 ((L) ++ [⟨x, 0, v1, b1⟩]) ∧ (∀ j, j < ((L) ++ [(⟨x, 0, v1, b1⟩ : Rw)]).length * 4 → w9.frozen? ⟨gq, j, none⟩ = false) ∧ ((L) ++ [(⟨x, 0, v1, b1⟩ : Rw)]).length ≤ cq := by
                rcases HR.out.form with ⟨h, _⟩ | h
                · cases h
                · exact h
              obtain rfl : g' = gq := by simp at hvq; exact hvq.1
              have z1 := hfq ((L).length * 4 + 1) (by simp; omega)
              obtain ⟨_, y1, _, _⟩ := hrq.2 (L).length (by simp)
              rw [Nat.zero_add] at y1
              have hml : ((L).length : Int) < ((L).length : Int) + 1 := by omega
              have HS9 : Hid (Str (hvD l s) f ((L) ++ [⟨x, p - 1, v1, b1⟩]) p) := by
                refine Str.at (HSM.out.snoc ⟨x, p - 1, v1, b1⟩ rfl (show x ≤ p - 1 by omega) (fun j h1 h2 => ?_) H4.out) (by simp)
                have h1' : x ≤ j := h1
                have h2' : j ≤ p - 1 := h2
                by_cases e : j ≤ x
                · exact HZV.out j h1' e
                · rw [hvD_still (x := x) (y := j) (by omega) fun i hi => by
                    by_cases e2 : (rnth l i).frm ≤ x
                    · exact .inl e2
                    · have := HP3.out i (by rw [← HN.out]; exact hi) (by omega)
                      exact .inr (by omega)]
                  exact HZV.out x hzf (Int.le_refl _)
              have HR9 := Lib.hid (HR.out.stored rfl (p - 1))
              have HB9 : Hid (Below w.heap.size w (w9.setCell ⟨g', (L).length * 4 + 1, none⟩ (.int .i64 (p - 1)))) := HBQ.out.setCell hBq _
              clear hvq hrq hfq
              go_wp2_with fail
              go_roundw
              case rel => exact ⟨_, p, rfl, by omega, hp2, HR9.out, HS9.out, HB9.out⟩
              case measure => simp [intOf]; omega
        · rw [HL0.out] at hu
          subst hu
          go_wp2_with (at_builtin; refine wpList_app_ref _ rfl _ _ rfl w.heap.size _ (L) rfl ?hgw w2.heap.size 1 ⟨x, 0, v1, b1⟩ rfl ?hcm ?hbd ?hB ?_; rotate_right; intro v9 w9 hg9 hb9; refine Hid.out ?_)
          case hgw => exact HRF2.out.alloc _
          case hcm => exact cameS_box w2 x 0 v1 b1
          case hbd => omega
          case hB => have := HB2.out.size; simp; omega
          obtain ⟨g', c', rfl, hr9⟩ : ∃ g c, v9 = .slice (some ⟨g, 0, none⟩) ((L).length + 1) c ∧ RAt w9 g 0 ((L) ++ [⟨x, 0, v1, b1⟩]) := by
            rcases hg9.form with ⟨_, h⟩ | ⟨g, c, h1, h2, h3⟩
            · simp at h
            · exact ⟨g, c, by rw [h1]; simp, h3⟩
          have HR : Hid (RefS w9 w.heap.size (.slice (some ⟨g', 0, none⟩) ((L).length + 1) c') ((L) ++ [⟨x, 0, v1, b1⟩])) := .inl hg9
          have HBQ := Lib.hid ((HB2.out.alloc HB2.out.size _).trans hb9)
          have HSM := HST
          have hzf : x ≤ x := Int.le_refl _
          have HZV : Hid (∀ j, x ≤ j → j ≤ x → hvD l s j = (v1, b1)) := fun j h1 h2 => by
            obtain rfl : j = x := by omega
            exact HV.out
          clear hg9 hb9 hr9 HRF2 HST HV HB2
          refine Lib.hid ?_
          go_wp2_with fail
          go_loop [13, 14] (fun pv iv => ∃ (k : Nat) (p : Int), k ≤ n ∧ iv = .int .i64 k ∧ pv = .int .i64 p ∧ NextR l x t k p) (fun _ iv => n - (intOf iv).toNat)
          case atStart => exact ⟨0, t + 1, Nat.zero_le _, rfl, rfl, ⟨by omega, by omega, fun j hj => by omega⟩⟩
          case round =>
            obtain ⟨k, p, hk, rfl, rfl, ⟨hp1, hp2, hp3⟩⟩ := hrel
            have HP3 := Lib.hid hp3
            clear hp3
            by_cases hlt : k < n
            · have hlt' : (k : Int) < (n : Int) := by omega
              obtain ⟨b, off, rfl, hcell⟩ := HC.out.open HN.out (by omega)
              obtain ⟨x0, _, _, _⟩ := hcell _ HBQ.out k hlt
              clear hcell
              by_cases e1 : x < (rnth l k).frm
              · have e1B : decide (x < (rnth l k).frm) = true := decide_eq_true e1
                by_cases e2 : (rnth l k).frm < p
                · have e2B : decide ((rnth l k).frm < p) = true := decide_eq_true e2
                  go_wp2_with fail
                  go_round
                  case rel => exact ⟨k + 1, _, by omega, by go_num, rfl, ⟨e1, by omega, fun j hj hd => by
                    rcases (show j < k ∨ j = k by omega) with h | rfl
                    · have := HP3.out j h hd; omega
                    · omega⟩⟩
                  case measure => simp [intOf]; omega
                · have e2B : decide ((rnth l k).frm < p) = false := decide_eq_false e2
                  go_wp2_with fail
                  go_round
                  case rel => exact ⟨k + 1, p, by omega, by go_num, rfl, ⟨hp1, hp2, fun j hj hd => by
                    rcases (show j < k ∨ j = k by omega) with h | rfl
                    · exact HP3.out j h hd
                    · omega⟩⟩
                  case measure => simp [intOf]; omega
              · have e1B : decide (x < (rnth l k).frm) = false := decide_eq_false e1
                go_wp2_with fail
                go_round
                case rel => exact ⟨k + 1, p, by omega, by go_num, rfl, ⟨hp1, hp2, fun j hj hd => by
                  rcases (show j < k ∨ j = k by omega) with h | rfl
                  · exact HP3.out j h hd
                  · omega⟩⟩
                case measure => simp [intOf]; omega
            · obtain rfl : k = n := by omega
              obtain ⟨gq, cq, hvq, hBq, hrq, hfq, _⟩ : ∃ gq cq, Value.slice (some (⟨g', 0, none⟩ : Addr)) ((L).length + 1) c' = .slice (some ⟨gq, 0, none⟩) ((L) ++ [(⟨x, 0, v1, b1⟩ : Rw)]).length cq ∧ w.heap.size ≤ gq ∧ RAt w9 gq 0 ((L) ++ [⟨x, 0, v1, b1⟩]) ∧ (∀ j, j < ((L) ++ [(⟨x, 0, v1, b1⟩ : Rw)]).length * 4 → w9.frozen? ⟨gq, j, none⟩ = false) ∧ ((L) ++ [(⟨x, 0, v1, b1⟩ : Rw)]).length ≤ cq := by
                rcases HR.out.form with ⟨h, _⟩ | h
                · cases h
                · exact h
              obtain rfl : g' = gq := by simp at hvq; exact hvq.1
              have z1 := hfq ((L).length * 4 + 1) (by simp; omega)
              obtain ⟨_, y1, _, _⟩ := hrq.2 (L).length (by simp)
              rw [Nat.zero_add] at y1
              have hml : ((L).length : Int) < ((L).length : Int) + 1 := by omega
              have HS9 : Hid (Str (hvD l s) f ((L) ++ [⟨x, p - 1, v1, b1⟩]) p) := by
                refine Str.at (HSM.out.snoc ⟨x, p - 1, v1, b1⟩ rfl (show x ≤ p - 1 by omega) (fun j h1 h2 => ?_) H4.out) (by simp)
                have h1' : x ≤ j := h1
                have h2' : j ≤ p - 1 := h2
                by_cases e : j ≤ x
                · exact HZV.out j h1' e
                · rw [hvD_still (x := x) (y := j) (by omega) fun i hi => by
                    by_cases e2 : (rnth l i).frm ≤ x
                    · exact .inl e2
                    · have := HP3.out i (by rw [← HN.out]; exact hi) (by omega)
                      exact .inr (by omega)]
                  exact HZV.out x hzf (Int.le_refl _)
              have HR9 := Lib.hid (HR.out.stored rfl (p - 1))
              have HB9 : Hid (Below w.heap.size w (w9.setCell ⟨g', (L).length * 4 + 1, none⟩ (.int .i64 (p - 1)))) := HBQ.out.setCell hBq _
              clear hvq hrq hfq
              go_wp2_with fail
              go_roundw
              case rel => exact ⟨_, p, rfl, by omega, hp2, HR9.out, HS9.out, HB9.out⟩
              case measure => simp [intOf]; omega
      · obtain ⟨M, z, rfl⟩ : ∃ M z, L = M ++ [z] := by
          rcases snoc_or L with rfl | h
          · exact absurd rfl hL
          · exact h
        obtain ⟨g0, c0, rfl, hBg, hrt, hfz, hcc0⟩ : ∃ g c, u9 = .slice (some ⟨g, 0, none⟩) (M.length + 1) c ∧ w.heap.size ≤ g ∧ RAt w2 g 0 (M ++ [z]) ∧ (∀ j, j < (M ++ [z]).length * 4 → w2.frozen? ⟨g, j, none⟩ = false) ∧ (M.length : Int) + 1 ≤ (c : Int) := by
          rcases HRF2.out.form with ⟨_, h⟩ | ⟨g, c, h1, h2, h3, h4⟩
          · simp at h
          · exact ⟨g, c, by rw [h1]; simp, h2, h3, h4.1, by have := h4.2; simp at this; omega⟩
        obtain ⟨r0, r1, r2, r3⟩ := hrt.2 M.length (by simp)
        rw [snoc_new] at r0 r1 r2 r3
        simp only [Nat.zero_add] at r0 r1 r2 r3
        obtain ⟨a1, a2, a3, a4, a5⟩ := HST.out.init
        obtain ⟨zf, zs, zv, zb⟩ := z
        simp only at a1 a2 a3 a4 a5 r0 r1 r2 r3
        have A5 := Lib.hid a5
        have a5' : zs ≤ x := by omega
        clear a5
        have hml : (M.length : Int) < (M.length : Int) + 1 := by omega
        have hmp : decide ((0 : Int) < (M.length : Int) + 1) = true := decide_eq_true (by omega)
        have hlen' : (M.length : Int) + 1 ≤ 73049 := by simp at hlen; omega
        by_cases hv : v1 = zv
        · subst hv
          by_cases hbb : b1 = zb
          · subst hbb
            have HSM := Lib.hid a1
            have H4 := Lib.hid a4
            have hzf : zf ≤ x := by have := A5.out; omega
            have HZV : Hid (∀ j, zf ≤ j → j ≤ x → hvD l s j = (v1, b1)) := fun j h1 h2 => by
              by_cases e : j ≤ zs
              · exact a3 j h1 e
              · obtain rfl : j = x := by have := A5.out; omega
                exact HV.out
            have HR : Hid (RefS w2 w.heap.size (.slice (some ⟨g0, 0, none⟩) (M.length + 1) (M.length + 1)) (M ++ [⟨zf, zs, v1, b1⟩])) := .inr ⟨g0, by simp, hBg, hrt, hfz⟩
            have HBQ := HB2
            clear a1 a3 a4 hrt hfz HRF2 HST HV HB2 hL r0 r1 hlen
            generalize g0 = g' at *
            go_wp2_with fail
            go_loop [13, 14] (fun pv iv => ∃ (k : Nat) (p : Int), k ≤ n ∧ iv = .int .i64 k ∧ pv = .int .i64 p ∧ NextR l x t k p) (fun _ iv => n - (intOf iv).toNat)
            case atStart => exact ⟨0, t + 1, Nat.zero_le _, rfl, rfl, ⟨by omega, by omega, fun j hj => by omega⟩⟩
            case round =>
              obtain ⟨k, p, hk, rfl, rfl, ⟨hp1, hp2, hp3⟩⟩ := hrel
              have HP3 := Lib.hid hp3
              clear hp3
              by_cases hlt : k < n
              · have hlt' : (k : Int) < (n : Int) := by omega
                obtain ⟨b, off, rfl, hcell⟩ := HC.out.open HN.out (by omega)
                obtain ⟨x0, _, _, _⟩ := hcell _ HBQ.out k hlt
                clear hcell
                by_cases e1 : x < (rnth l k).frm
                · have e1B : decide (x < (rnth l k).frm) = true := decide_eq_true e1
                  by_cases e2 : (rnth l k).frm < p
                  · have e2B : decide ((rnth l k).frm < p) = true := decide_eq_true e2
                    go_wp2_with fail
                    go_round
                    case rel => exact ⟨k + 1, _, by omega, by go_num, rfl, ⟨e1, by omega, fun j hj hd => by
                      rcases (show j < k ∨ j = k by omega) with h | rfl
                      · have := HP3.out j h hd; omega
                      · omega⟩⟩
                    case measure => simp [intOf]; omega
                  · have e2B : decide ((rnth l k).frm < p) = false := decide_eq_false e2
                    go_wp2_with fail
                    go_round
                    case rel => exact ⟨k + 1, p, by omega, by go_num, rfl, ⟨hp1, hp2, fun j hj hd => by
                      rcases (show j < k ∨ j = k by omega) with h | rfl
                      · exact HP3.out j h hd
                      · omega⟩⟩
                    case measure => simp [intOf]; omega
                · have e1B : decide (x < (rnth l k).frm) = false := decide_eq_false e1
                  go_wp2_with fail
                  go_round
                  case rel => exact ⟨k + 1, p, by omega, by go_num, rfl, ⟨hp1, hp2, fun j hj hd => by
                    rcases (show j < k ∨ j = k by omega) with h | rfl
                    · exact HP3.out j h hd
                    · omega⟩⟩
                  case measure => simp [intOf]; omega
              · obtain rfl : k = n := by omega
                obtain ⟨gq, cq, hvq, hBq, hrq, hfq, _⟩ : ∃ gq cq, Value.slice (some (⟨g', 0, none⟩ : Addr)) (M.length + 1) (M.length + 1) = .slice (some ⟨gq, 0, none⟩) (M ++ [(⟨zf, zs, v1, b1⟩ : Rw)]).length cq ∧ w.heap.size ≤ gq ∧ RAt w2 gq 0 (M ++ [⟨zf, zs, v1, b1⟩]) ∧ (∀ j, j < (M ++ [(⟨zf, zs, v1, b1⟩ : Rw)]).length * 4 → w2.frozen? ⟨gq, j, none⟩ = false) ∧ (M ++ [(⟨zf, zs, v1, b1⟩ : Rw)]).length ≤ cq := by
                  rcases HR.out.form with ⟨h, _⟩ | h
                  · cases h
                  · exact h
                obtain rfl : g' = gq := by simp at hvq; exact hvq.1
                have z1 := hfq (M.length * 4 + 1) (by simp; omega)
                obtain ⟨_, y1, _, _⟩ := hrq.2 M.length (by simp)
                rw [Nat.zero_add] at y1
                have hml : (M.length : Int) < (M.length : Int) + 1 := by omega
                have HS9 : Hid (Str (hvD l s) f (M ++ [⟨zf, p - 1, v1, b1⟩]) p) := by
                  refine Str.at (HSM.out.snoc ⟨zf, p - 1, v1, b1⟩ rfl (show zf ≤ p - 1 by omega) (fun j h1 h2 => ?_) H4.out) (by simp)
                  have h1' : zf ≤ j := h1
                  have h2' : j ≤ p - 1 := h2
                  by_cases e : j ≤ x
                  · exact HZV.out j h1' e
                  · rw [hvD_still (x := x) (y := j) (by omega) fun i hi => by
                      by_cases e2 : (rnth l i).frm ≤ x
                      · exact .inl e2
                      · have := HP3.out i (by rw [← HN.out]; exact hi) (by omega)
                        exact .inr (by omega)]
                    exact HZV.out x hzf (Int.le_refl _)
                have HR9 := Lib.hid (HR.out.stored rfl (p - 1))
                have HB9 : Hid (Below w.heap.size w (w2.setCell ⟨g', M.length * 4 + 1, none⟩ (.int .i64 (p - 1)))) := HBQ.out.setCell hBq _
                clear hvq hrq hfq
                go_wp2_with fail
                go_roundw
                case rel => exact ⟨_, p, rfl, by omega, hp2, HR9.out, HS9.out, HB9.out⟩
                case measure => simp [intOf]; omega
          · have hbB : (zb == b1) = false := by cases zb <;> cases b1 <;> simp_all
            have H4 : Hid (∀ k, (M ++ [(⟨zf, zs, v1, zb⟩ : Rw)]).length = k + 1 → ((rnth (M ++ [(⟨zf, zs, v1, zb⟩ : Rw)]) k).val, (rnth (M ++ [(⟨zf, zs, v1, zb⟩ : Rw)]) k).gone) ≠ (v1, b1)) := fun k hk => by
              obtain rfl : k = M.length := by simp at hk; omega
              rw [snoc_new]
              exact fun e => hbb (congrArg Prod.snd e).symm
            clear a1 a3 a4 hrt hfz hL
            generalize M ++ [(⟨zf, zs, v1, zb⟩ : Rw)] = LL at *
            go_wp2_with (at_builtin; refine wpList_app_ref _ rfl _ _ rfl w.heap.size _ (LL) rfl ?hgw w2.heap.size 1 ⟨x, 0, v1, b1⟩ rfl ?hcm ?hbd ?hB ?_; rotate_right; intro v9 w9 hg9 hb9; refine Hid.out ?_)
            case hgw => exact HRF2.out.alloc _
            case hcm => exact cameS_box w2 x 0 v1 b1
            case hbd => omega
            case hB => have := HB2.out.size; simp; omega
            obtain ⟨g', c', rfl, hr9⟩ : ∃ g c, v9 = .slice (some ⟨g, 0, none⟩) ((LL).length + 1) c ∧ RAt w9 g 0 ((LL) ++ [⟨x, 0, v1, b1⟩]) := by
              rcases hg9.form with ⟨_, h⟩ | ⟨g, c, h1, h2, h3⟩
              · simp at h
              · exact ⟨g, c, by rw [h1]; simp, h3⟩
            have HR : Hid (RefS w9 w.heap.size (.slice (some ⟨g', 0, none⟩) ((LL).length + 1) c') ((LL) ++ [⟨x, 0, v1, b1⟩])) := .inl hg9
            have HBQ := Lib.hid ((HB2.out.alloc HB2.out.size _).trans hb9)
            have HSM := HST
            have hzf : x ≤ x := Int.le_refl _
            have HZV : Hid (∀ j, x ≤ j → j ≤ x → hvD l s j = (v1, b1)) := fun j h1 h2 => by
              obtain rfl : j = x := by omega
              exact HV.out
            clear hg9 hb9 hr9 HRF2 HST HV HB2
            refine Lib.hid ?_
            go_wp2_with fail
            go_loop [13, 14] (fun pv iv => ∃ (k : Nat) (p : Int), k ≤ n ∧ iv = .int .i64 k ∧ pv = .int .i64 p ∧ NextR l x t k p) (fun _ iv => n - (intOf iv).toNat)
            case atStart => exact ⟨0, t + 1, Nat.zero_le _, rfl, rfl, ⟨by omega, by omega, fun j hj => by omega⟩⟩
            case round =>
              obtain ⟨k, p, hk, rfl, rfl, ⟨hp1, hp2, hp3⟩⟩ := hrel
              have HP3 := Lib.hid hp3
              clear hp3
              by_cases hlt : k < n
              · have hlt' : (k : Int) < (n : Int) := by omega
                obtain ⟨b, off, rfl, hcell⟩ := HC.out.open HN.out (by omega)
                obtain ⟨x0, _, _, _⟩ := hcell _ HBQ.out k hlt
                clear hcell
                by_cases e1 : x < (rnth l k).frm
                · have e1B : decide (x < (rnth l k).frm) = true := decide_eq_true e1
                  by_cases e2 : (rnth l k).frm < p
                  · have e2B : decide ((rnth l k).frm < p) = true := decide_eq_true e2
                    go_wp2_with fail
                    go_round
                    case rel => exact ⟨k + 1, _, by omega, by go_num, rfl, ⟨e1, by omega, fun j hj hd => by
                      rcases (show j < k ∨ j = k by omega) with h | rfl
                      · have := HP3.out j h hd; omega
                      · omega⟩⟩
                    case measure => simp [intOf]; omega
                  · have e2B : decide ((rnth l k).frm < p) = false := decide_eq_false e2
                    go_wp2_with fail
                    go_round
                    case rel => exact ⟨k + 1, p, by omega, by go_num, rfl, ⟨hp1, hp2, fun j hj hd => by
                      rcases (show j < k ∨ j = k by omega) with h | rfl
                      · exact HP3.out j h hd
                      · omega⟩⟩
                    case measure => simp [intOf]; omega
                · have e1B : decide (x < (rnth l k).frm) = false := decide_eq_false e1
                  go_wp2_with fail
                  go_round
                  case rel => exact ⟨k + 1, p, by omega, by go_num, rfl, ⟨hp1, hp2, fun j hj hd => by
                    rcases (show j < k ∨ j = k by omega) with h | rfl
                    · exact HP3.out j h hd
                    · omega⟩⟩
                  case measure => simp [intOf]; omega
              · obtain rfl : k = n := by omega
                obtain ⟨gq, cq, hvq, hBq, hrq, hfq, _⟩ : ∃ gq cq, Value.slice (some (⟨g', 0, none⟩ : Addr)) ((LL).length + 1) c' = .slice (some ⟨gq, 0, none⟩) ((LL) ++ [(⟨x, 0, v1, b1⟩ : Rw)]).length cq ∧ w.heap.size ≤ gq ∧ RAt w9 gq 0 ((LL) ++ [⟨x, 0, v1, b1⟩]) ∧ (∀ j, j < ((LL) ++ [(⟨x, 0, v1, b1⟩ : Rw)]).length * 4 → w9.frozen? ⟨gq, j, none⟩ = false) ∧ ((LL) ++ [(⟨x, 0, v1, b1⟩ : Rw)]).length ≤ cq := by
                  rcases HR.out.form with ⟨h, _⟩ | h
                  · cases h
                  · exact h
                obtain rfl : g' = gq := by simp at hvq; exact hvq.1
                have z1 := hfq ((LL).length * 4 + 1) (by simp; omega)
                obtain ⟨_, y1, _, _⟩ := hrq.2 (LL).length (by simp)
                rw [Nat.zero_add] at y1
                have hml : ((LL).length : Int) < ((LL).length : Int) + 1 := by omega
                have HS9 : Hid (Str (hvD l s) f ((LL) ++ [⟨x, p - 1, v1, b1⟩]) p) := by
                  refine Str.at (HSM.out.snoc ⟨x, p - 1, v1, b1⟩ rfl (show x ≤ p - 1 by omega) (fun j h1 h2 => ?_) H4.out) (by simp)
                  have h1' : x ≤ j := h1
                  have h2' : j ≤ p - 1 := h2
                  by_cases e : j ≤ x
                  · exact HZV.out j h1' e
                  · rw [hvD_still (x := x) (y := j) (by omega) fun i hi => by
                      by_cases e2 : (rnth l i).frm ≤ x
                      · exact .inl e2
                      · have := HP3.out i (by rw [← HN.out]; exact hi) (by omega)
                        exact .inr (by omega)]
                    exact HZV.out x hzf (Int.le_refl _)
                have HR9 := Lib.hid (HR.out.stored rfl (p - 1))
                have HB9 : Hid (Below w.heap.size w (w9.setCell ⟨g', (LL).length * 4 + 1, none⟩ (.int .i64 (p - 1)))) := HBQ.out.setCell hBq _
                clear hvq hrq hfq
                go_wp2_with fail
                go_roundw
                case rel => exact ⟨_, p, rfl, by omega, hp2, HR9.out, HS9.out, HB9.out⟩
                case measure => simp [intOf]; omega
        · have hvB : (zv == v1) = false := by simpa using fun e => hv e.symm
          have hvC : decide (zv = v1) = false := decide_eq_false fun e => hv e.symm
          have H4 : Hid (∀ k, (M ++ [(⟨zf, zs, zv, zb⟩ : Rw)]).length = k + 1 → ((rnth (M ++ [(⟨zf, zs, zv, zb⟩ : Rw)]) k).val, (rnth (M ++ [(⟨zf, zs, zv, zb⟩ : Rw)]) k).gone) ≠ (v1, b1)) := fun k hk => by
            obtain rfl : k = M.length := by simp at hk; omega
            rw [snoc_new]
            exact fun e => hv (congrArg Prod.fst e).symm
          clear a1 a3 a4 hrt hfz hL
          generalize M ++ [(⟨zf, zs, zv, zb⟩ : Rw)] = LL at *
          go_wp2_with (at_builtin; refine wpList_app_ref _ rfl _ _ rfl w.heap.size _ (LL) rfl ?hgw w2.heap.size 1 ⟨x, 0, v1, b1⟩ rfl ?hcm ?hbd ?hB ?_; rotate_right; intro v9 w9 hg9 hb9; refine Hid.out ?_)
          case hgw => exact HRF2.out.alloc _
          case hcm => exact cameS_box w2 x 0 v1 b1
          case hbd => omega
          case hB => have := HB2.out.size; simp; omega
          obtain ⟨g', c', rfl, hr9⟩ : ∃ g c, v9 = .slice (some ⟨g, 0, none⟩) ((LL).length + 1) c ∧ RAt w9 g 0 ((LL) ++ [⟨x, 0, v1, b1⟩]) := by
            rcases hg9.form with ⟨_, h⟩ | ⟨g, c, h1, h2, h3⟩
            · simp at h
            · exact ⟨g, c, by rw [h1]; simp, h3⟩
          have HR : Hid (RefS w9 w.heap.size (.slice (some ⟨g', 0, none⟩) ((LL).length + 1) c') ((LL) ++ [⟨x, 0, v1, b1⟩])) := .inl hg9
          have HBQ := Lib.hid ((HB2.out.alloc HB2.out.size _).trans hb9)
          have HSM := HST
          have hzf : x ≤ x := Int.le_refl _
          have HZV : Hid (∀ j, x ≤ j → j ≤ x → hvD l s j = (v1, b1)) := fun j h1 h2 => by
            obtain rfl : j = x := by omega
            exact HV.out
          clear hg9 hb9 hr9 HRF2 HST HV HB2
          refine Lib.hid ?_
          go_wp2_with fail
          go_loop [13, 14] (fun pv iv => ∃ (k : Nat) (p : Int), k ≤ n ∧ iv = .int .i64 k ∧ pv = .int .i64 p ∧ NextR l x t k p) (fun _ iv => n - (intOf iv).toNat)
          case atStart => exact ⟨0, t + 1, Nat.zero_le _, rfl, rfl, ⟨by omega, by omega, fun j hj => by omega⟩⟩
          case round =>
            obtain ⟨k, p, hk, rfl, rfl, ⟨hp1, hp2, hp3⟩⟩ := hrel
            have HP3 := Lib.hid hp3
            clear hp3
            by_cases hlt : k < n
            · have hlt' : (k : Int) < (n : Int) := by omega
              obtain ⟨b, off, rfl, hcell⟩ := HC.out.open HN.out (by omega)
              obtain ⟨x0, _, _, _⟩ := hcell _ HBQ.out k hlt
              clear hcell
              by_cases e1 : x < (rnth l k).frm
              · have e1B : decide (x < (rnth l k).frm) = true := decide_eq_true e1
                by_cases e2 : (rnth l k).frm < p
                · have e2B : decide ((rnth l k).frm < p) = true := decide_eq_true e2
                  go_wp2_with fail
                  go_round
                  case rel => exact ⟨k + 1, _, by omega, by go_num, rfl, ⟨e1, by omega, fun j hj hd => by
                    rcases (show j < k ∨ j = k by omega) with h | rfl
                    · have := HP3.out j h hd; omega
                    · omega⟩⟩
                  case measure => simp [intOf]; omega
                · have e2B : decide ((rnth l k).frm < p) = false := decide_eq_false e2
                  go_wp2_with fail
                  go_round
                  case rel => exact ⟨k + 1, p, by omega, by go_num, rfl, ⟨hp1, hp2, fun j hj hd => by
                    rcases (show j < k ∨ j = k by omega) with h | rfl
                    · exact HP3.out j h hd
                    · omega⟩⟩
                  case measure => simp [intOf]; omega
              · have e1B : decide (x < (rnth l k).frm) = false := decide_eq_false e1
                go_wp2_with fail
                go_round
                case rel => exact ⟨k + 1, p, by omega, by go_num, rfl, ⟨hp1, hp2, fun j hj hd => by
                  rcases (show j < k ∨ j = k by omega) with h | rfl
                  · exact HP3.out j h hd
                  · omega⟩⟩
                case measure => simp [intOf]; omega
            · obtain rfl : k = n := by omega
              obtain ⟨gq, cq, hvq, hBq, hrq, hfq, _⟩ : ∃ gq cq, Value.slice (some (⟨g', 0, none⟩ : Addr)) ((LL).length + 1) c' = .slice (some ⟨gq, 0, none⟩) ((LL) ++ [(⟨x, 0, v1, b1⟩ : Rw)]).length cq ∧ w.heap.size ≤ gq ∧ RAt w9 gq 0 ((LL) ++ [⟨x, 0, v1, b1⟩]) ∧ (∀ j, j < ((LL) ++ [(⟨x, 0, v1, b1⟩ : Rw)]).length * 4 → w9.frozen? ⟨gq, j, none⟩ = false) ∧ ((LL) ++ [(⟨x, 0, v1, b1⟩ : Rw)]).length ≤ cq := by
                rcases HR.out.form with ⟨h, _⟩ | h
                · cases h
                · exact h
              obtain rfl : g' = gq := by simp at hvq; exact hvq.1
              have z1 := hfq ((LL).length * 4 + 1) (by simp; omega)
              obtain ⟨_, y1, _, _⟩ := hrq.2 (LL).length (by simp)
              rw [Nat.zero_add] at y1
              have hml : ((LL).length : Int) < ((LL).length : Int) + 1 := by omega
              have HS9 : Hid (Str (hvD l s) f ((LL) ++ [⟨x, p - 1, v1, b1⟩]) p) := by
                refine Str.at (HSM.out.snoc ⟨x, p - 1, v1, b1⟩ rfl (show x ≤ p - 1 by omega) (fun j h1 h2 => ?_) H4.out) (by simp)
                have h1' : x ≤ j := h1
                have h2' : j ≤ p - 1 := h2
                by_cases e : j ≤ x
                · exact HZV.out j h1' e
                · rw [hvD_still (x := x) (y := j) (by omega) fun i hi => by
                    by_cases e2 : (rnth l i).frm ≤ x
                    · exact .inl e2
                    · have := HP3.out i (by rw [← HN.out]; exact hi) (by omega)
                      exact .inr (by omega)]
                  exact HZV.out x hzf (Int.le_refl _)
              have HR9 := Lib.hid (HR.out.stored rfl (p - 1))
              have HB9 : Hid (Below w.heap.size w (w9.setCell ⟨g', (LL).length * 4 + 1, none⟩ (.int .i64 (p - 1)))) := HBQ.out.setCell hBq _
              clear hvq hrq hfq
              go_wp2_with fail
              go_roundw
              case rel => exact ⟨_, p, rfl, by omega, hp2, HR9.out, HS9.out, HB9.out⟩
              case measure => simp [intOf]; omega
    · obtain rfl : x = t + 1 := by omega
      have hleB : decide (t + 1 ≤ t) = false := decide_eq_false (by omega)
      go_wp2_with fail
      go_ret
      exact ⟨_, _, rfl, HRF.out, HST.out, HB.out⟩
end Go.Proofs.Ytjokgohnpnhhdaa
