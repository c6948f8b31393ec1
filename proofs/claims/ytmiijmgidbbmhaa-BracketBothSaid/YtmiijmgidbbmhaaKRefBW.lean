/-
  Promise G4: the walk of the reference's BothTables.
-/
import Derived.Test.YtmiijmgidbbmhaaKRefB
import Derived.Test.YtmiijmgidbbmhaaKTaxR
namespace Go.Proofs.Ytmiijmgidbbmhaa
open Go.RowKit Go.Maps

/-- A step: a bracket appended onto a row of the call's own. -/
theorem step_app_bk {ops : Array Oper} {o : Oper} {a : Act} {K : Act → World → Prop} {Q : Exit → Act → World → Prop} {E : Prop} (w : World) (hgd : o.guard = none) (s x : Operand)
    (ho : o.op = .call { callee := .builtin .append, args := #[s, x], argTypes := #[22, 22] })
    (B : Nat) (v : Value) (l : List Bk) (hs : a.eval s = v) (hown : GrowB w B v l) (b off m c : Nat) (news : List Bk) (hx : a.eval x = .slice (some ⟨b, off, none⟩) m c) (hsrc : BAt w b off news) (hm : news.length = m)
    (hb : (l.length + m) * 16 ≤ 140737488355328) (hB : B ≤ w.heap.size)
    (h : ∀ v' w', GrowB w' B v' (l ++ news) → Below B w w' → K (a.put o.dst v') w') :
    if Region.wanted o (yielded ops a.tmps) = true then Oper.wp Try.prog o a w K Q else E := by
  have hw : Region.wanted o (yielded ops a.tmps) = true := by simp [Region.wanted, hgd]
  rw [if_pos hw]
  obtain ⟨i0, hi, hz0, hz1, hz2⟩ := info_parts bk_info
  have hnews : ∀ j u, (cellsB news)[j]? = some u → w.cell? ((⟨b, off, none⟩ : Addr).add j) = some u := by
    intro j u hu
    rw [Addr.add_lit]
    exact holds_of_bat hsrc j u hu
  obtain ⟨v', w', hr, h2, h3, _, h5⟩ := run_append_own_at (P := Try.prog) w B 22 o.type 43 i0 _ 2 16 Try.underlying22 hi hz0 hz1 hz2 rfl (by decide) v l.length (cellsB l) hown ⟨b, off, none⟩ m c (cellsB news) (by rw [cellsB_length, hm]) hnews (cellsB_one_cell news) (by unfold maxLen; omega) hb hB
  have h2' : GrowB w' B v' (l ++ news) := by
    unfold GrowB
    rw [List.length_append, hm, cellsB_append]
    exact h2
  unfold Oper.wp execOp
  simp only [ho, resolve, invoke, builtin, Sem.run_bind, Sem.run_pure, Result.andThen_ok, List.map_toArray, List.map_cons, List.map_nil, hs, hx, hr]
  exact h v' w' h2' ((Below.refl B w).grown h3 hB fun k hk => (GrowB.lt hown k hk).1)
theorem BAt.one (w : World) (f r : Int) : BAt (w.alloc (.cells #[.int .i64 f, .int .i64 r] 43)) w.heap.size 0 [⟨f, r⟩] := by
  refine ⟨by simp, fun j hj => ?_⟩
  obtain rfl : j = 0 := by simpa using hj
  exact ⟨by simp [bnth], by simp [bnth]⟩
set_option maxHeartbeats 1000000 in
theorem rateFrom_ref (s : ByteArray) (a : Option Addr) (n cap : Nat) (l : List Bk) (f : Int) (w : World) (hc : CameB w a l) (hn : l.length = n) (hl : 1 ≤ n) (h12 : n ≤ 12) (h0 : 0 ≤ f) (h1 : f ≤ 1000000000000) :
    Calls Try.prog 42 #[.agg #[.string s, .slice a n cap], .int .i64 f] w fun e w' => e = .returned (.int .i64 (rateN l (f + 1))) ∧ Below w.heap.size w w' := by
  have HC := Lib.hid hc
  clear hc
  have HB0 := Lib.hid (kbelow_box w (.cells #[.string s, .slice a n cap] 24))
  go_enter Try.func42, Try.ntmps42
  go_wp2_with fail
  refine (rateOf_ref s a n cap l (f + 1) _ (HC.out.below HB0.out) hn hl h12).mono ?_
  rintro e w1 ⟨rfl, hb⟩
  have HB1 := Lib.hid (HB0.out.trans (hb.mono HB0.out.size))
  clear hb
  go_wp2_with fail
  go_ret
  exact ⟨rfl, HB1.out⟩
/-- The table that is made, in its box. -/
def OBox (w : World) (g : Nat) (s : ByteArray) (v : Value) : Prop := g < w.heap.size ∧ (w.cell? ⟨g, 0, none⟩ = some (.string s) ∧ w.frozen? ⟨g, 0, none⟩ = false) ∧ (w.cell? ⟨g, 1, none⟩ = some v ∧ w.frozen? ⟨g, 1, none⟩ = false)
/-- The table that is made holds these brackets. -/
def OutIs (w : World) (g B : Nat) (s : ByteArray) (L : List Bk) : Prop := ∃ v, OBox w g s v ∧ GrowB w B v L
theorem OBox.made (w : World) (s : ByteArray) (v : Value) (T : TypeId) : OBox (w.alloc (.cells #[.string s, v] T)) w.heap.size s v := by
  refine ⟨?_, ⟨?_, ?_⟩, ⟨?_, ?_⟩⟩ <;> simp
theorem OBox.below {B : Nat} {w w' : World} {g : Nat} {s : ByteArray} {v : Value} (h : OBox w g s v) (hb : Below B w w') (hB : g < B) : OBox w' g s v :=
  ⟨Nat.lt_of_lt_of_le h.1 hb.size, ⟨(hb.cell (p := ⟨g, 0, none⟩) hB).trans h.2.1.1, (hb.frozen (p := ⟨g, 0, none⟩) hB).trans h.2.1.2⟩, ⟨(hb.cell (p := ⟨g, 1, none⟩) hB).trans h.2.2.1, (hb.frozen (p := ⟨g, 1, none⟩) hB).trans h.2.2.2⟩⟩
theorem OBox.put {w : World} {g : Nat} {s : ByteArray} {v : Value} (h : OBox w g s v) (u : Value) : OBox (w.setCell ⟨g, 1, none⟩ u) g s u := by
  refine ⟨by simp; exact h.1, ⟨?_, by rw [World.frozen?_setCell]; exact h.2.1.2⟩, ⟨World.cell?_setCell_same _ _ _ h.2.2.1, by rw [World.frozen?_setCell]; exact h.2.2.2⟩⟩
  rw [World.cell?_setCell_other (h := fun e => by injection e; omega)]
  exact h.2.1.1
theorem take_ins (C : List Int) {k : Nat} (hk : k < C.length) : insAll [] (C.take (k + 1)) = insI (nth C k) (insAll [] (C.take k)) := by
  rw [List.take_succ_eq_append_getElem hk, insAll_append]
  have e : C[k] = nth C k := by simp [nth, List.getD_eq_getElem?_getD, hk]
  rw [e]
  rfl
theorem lessN_len (f : Int) (F : List Int) : (insI f F).length ≤ F.length + 1 := by
  unfold insI
  split
  · omega
  · rw [List.length_append, List.length_append, List.length_take, List.length_drop]
    simp
    omega
theorem insAll_len : ∀ (r F : List Int), (insAll F r).length ≤ F.length + r.length
  | [], F => by simp [insAll]
  | f :: r, F => by
    have h1 := insAll_len r (insI f F)
    have h2 := lessN_len f F
    simp only [insAll, List.length_cons]
    omega
theorem GrowI.at {w : World} {B : Nat} {x : Option Addr} {n c : Nat} {l : List Int} (h : GrowI w B (.slice x n c) l) (hl : 0 < l.length) : ∃ g, x = some ⟨g, 0, none⟩ ∧ At w g 0 l ∧ B ≤ g ∧ l.length ≤ c := by
  obtain ⟨g, cur, rfl, _, hc, hB, hg, _, hH⟩ := h.open hl
  refine ⟨g, rfl, ⟨hg, fun j hj => ?_⟩, hB, hc⟩
  have := (hH j (by simpa using hj)).1
  rw [this]
  simp [nth, List.getD_eq_getElem?_getD, hj]
theorem GrowI.mono {w : World} {B B' : Nat} {v : Value} {l : List Int} (h : GrowI w B v l) (hB : B' ≤ B) : GrowI w B' v l := by
  refine ⟨h.1, ?_⟩
  rcases h.2 with hn | ⟨g, cap, cur, h1, h2, rest⟩
  · exact .inl hn
  · exact .inr ⟨g, cap, cur, h1, Nat.le_trans hB h2, rest⟩
theorem At.one (w : World) (f : Int) (T : TypeId) : At (w.alloc (.cells #[.int .i64 f] T)) w.heap.size 0 [f] := by
  refine ⟨by simp, fun j hj => ?_⟩
  obtain rfl : j = 0 := by simpa using hj
  simp [nth]
/-- What BothTables answers. -/
def RefIs (w' : World) (B : Nat) (s : ByteArray) (l m : List Bk) (r : ByteArray) (v : Value) (er : Int) : Prop :=
  (highB (bothL l m) = true ∧ er = 3 ∧ r = ⟨#[]⟩ ∧ v = .slice none 0 0) ∨ (highB (bothL l m) = false ∧ 12 < (bothL l m).length ∧ er = 2 ∧ r = ⟨#[]⟩ ∧ v = .slice none 0 0) ∨
  (highB (bothL l m) = false ∧ (bothL l m).length ≤ 12 ∧ er = 0 ∧ r = s ∧ GrowB w' B v (bothL l m))
set_option maxRecDepth 100000 in
set_option maxHeartbeats 4000000 in
theorem bothTables_ref (s : ByteArray) (b1 o1 n cap : Nat) (l : List Bk) (t : ByteArray) (b2 o2 n' cap' : Nat) (m : List Bk) (w : World) (h1 : BAt w b1 o1 l) (h2 : BAt w b2 o2 m) (hn : l.length = n) (hn' : m.length = n') (hl : Right l) (hm : Right m) :
    Calls Try.prog 23 #[.agg #[.string s, .slice (some ⟨b1, o1, none⟩) n cap], .agg #[.string t, .slice (some ⟨b2, o2, none⟩) n' cap']] w fun e w' => ∃ r v er, e = .returned (.tuple #[.agg #[.string r, v], .int .i64 er]) ∧ RefIs w' w.heap.size s l m r v er ∧ Below w.heap.size w w' := by
  have H1 := Lib.hid h1
  have H2 := Lib.hid h2
  have HL := Lib.hid hl
  have HM := Lib.hid hm
  have k1 : 1 ≤ n := by rw [← hn]; exact hl.1
  have k1' : n ≤ 12 := by rw [← hn]; exact hl.2.1
  have k2 : 1 ≤ n' := by rw [← hn']; exact hm.1
  have k2' : n' ≤ 12 := by rw [← hn']; exact hm.2.1
  clear h1 h2 hl hm
  have hz1 : (w.alloc (.cells #[.string s, .slice (some ⟨b1, o1, none⟩) n cap] 24)).heap.size = w.heap.size + 1 := by simp
  have hz2 : ((w.alloc (.cells #[.string s, .slice (some ⟨b1, o1, none⟩) n cap] 24)).alloc (.cells #[.string t, .slice (some ⟨b2, o2, none⟩) n' cap'] 24)).heap.size = w.heap.size + 2 := by simp
  have hT1 := TIs.made w s (some ⟨b1, o1, none⟩) n cap 24
  have hU2 := TIs.made (w.alloc (.cells #[.string s, .slice (some ⟨b1, o1, none⟩) n cap] 24)) t (some ⟨b2, o2, none⟩) n' cap' 24
  have hR3 := RBox.made ((w.alloc (.cells #[.string s, .slice (some ⟨b1, o1, none⟩) n cap] 24)).alloc (.cells #[.string t, .slice (some ⟨b2, o2, none⟩) n' cap'] 24)) 24
  rw [hz1] at hU2
  rw [hz2] at hR3
  have hT2 := hT1.below (kbelow_box _ (.cells #[.string t, .slice (some ⟨b2, o2, none⟩) n' cap'] 24)) hT1.1
  have HT0 := Lib.hid (hT2.below (kbelow_box _ (.cells #[.string (⟨#[]⟩ : ByteArray), .slice none 0 0] 24)) hT2.1)
  have HU0 := Lib.hid (hU2.below (kbelow_box _ (.cells #[.string (⟨#[]⟩ : ByteArray), .slice none 0 0] 24)) hU2.1)
  have HR0 := Lib.hid hR3
  have HB0 := Lib.hid (((kbelow_box w (.cells #[.string s, .slice (some ⟨b1, o1, none⟩) n cap] 24)).alloc (kbelow_box w (.cells #[.string s, .slice (some ⟨b1, o1, none⟩) n cap] 24)).size (.cells #[.string t, .slice (some ⟨b2, o2, none⟩) n' cap'] 24)).alloc (by rw [hz2]; omega) (.cells #[.string (⟨#[]⟩ : ByteArray), .slice none 0 0] 24))
  clear hT1 hT2 hU2 hR3 hz1 hz2
  go_enter Try.func23, Try.ntmps23
  go_wp2_with fail
  generalize (((w.alloc (.cells #[.string s, .slice (some ⟨b1, o1, none⟩) n cap] 24)).alloc (.cells #[.string t, .slice (some ⟨b2, o2, none⟩) n' cap'] 24)).alloc (.cells #[.string (⟨#[]⟩ : ByteArray), .slice none 0 0] 24)) = W at *
  have hCl : (l.map Bk.frm ++ m.map Bk.frm).length = n + n' := by rw [List.length_append, List.length_map, List.length_map]; omega
  have HCn1 : Hid (∀ k, k < n → nth (l.map Bk.frm ++ m.map Bk.frm) k = (bnth l k).frm) := fun k hk => by
    have e := frm_nth l (j := k) (by omega)
    simp [nth, List.getD_eq_getElem?_getD, List.getElem?_append_left (show k < (l.map Bk.frm).length by rw [List.length_map]; omega), show k < l.length by omega, e]
  have HCn2 : Hid (∀ k, k < n' → nth (l.map Bk.frm ++ m.map Bk.frm) (n + k) = (bnth m k).frm) := fun k hk => by
    have e := frm_nth m (j := k) (by omega)
    simp [nth, List.getD_eq_getElem?_getD, hn, show k < m.length by omega, e]
  have HCf := Lib.hid (insAll_froms l m)
  generalize l.map Bk.frm ++ m.map Bk.frm = C at *
  go_loopw [6, 7] (fun z i wr => ∃ k : Nat, k ≤ n + n' ∧ i = .int .i64 k ∧ GrowI wr W.heap.size z (insAll [] (C.take k)) ∧ ((insAll [] (C.take k)).length = 0 → z = .slice none 0 0) ∧ Below W.heap.size W wr) (fun _ i _ => n + n' - (intOf i).toNat)
  case atStart => exact ⟨0, by omega, rfl, World.ownsRow_nil _ _ _ _, fun _ => rfl, Below.refl _ _⟩
  case round =>
    obtain ⟨k, hk, rfl, hz, hnil, hbr⟩ := hrel
    have hFl := insAll_len (C.take k) []
    rw [List.length_take] at hFl
    simp only [List.length_nil] at hFl
    obtain ⟨x, c, rfl⟩ := hz.form
    have HZ := Lib.hid hz
    have HNil := Lib.hid hnil
    have HBR := Lib.hid hbr
    clear hnil
    have HT1 := Lib.hid (HT0.out.below hbr HT0.out.1)
    have HU1 := Lib.hid (HU0.out.below hbr HU0.out.1)
    have HBA := Lib.hid ((H1.out.below HB0.out H1.out.1).below hbr (H1.out.below HB0.out H1.out.1).1)
    have HBB := Lib.hid ((H2.out.below HB0.out H2.out.1).below hbr (H2.out.below HB0.out H2.out.1).1)
    clear hz hbr
    obtain ⟨_, x0, x1⟩ := HT1.out
    obtain ⟨_, y0, y1⟩ := HU1.out
    by_cases hlt : k < n + n'
    · have hlt' : (k : Int) < (n : Int) + (n' : Int) := by omega
      have HIns := Lib.hid (take_ins C (k := k) (by omega))
      generalize insAll [] (C.take k) = F at *
      by_cases hkn : k < n
      · have hkn' : (k : Int) < (n : Int) := by omega
        obtain ⟨u0, _⟩ := HBA.out.2 k (by omega)
        have HF0 := Lib.hid (HCn1.out k hkn)
        rw [HF0.out] at HIns
        generalize (bnth l k).frm = f at *
        go_wp2_with fail
        go_loop [9] (fun q => ∃ j : Nat, j ≤ F.length ∧ q = .int .i64 j ∧ ∀ i, i < j → nth F i < f) (fun q => F.length - (intOf q).toNat)
        case atStart => exact ⟨0, Nat.zero_le _, rfl, fun i hi => absurd hi (by omega)⟩
        case round =>
          obtain ⟨j, hj, rfl, hless⟩ := hrel
          have HLs := Lib.hid hless
          clear hless
          by_cases hjl : j < F.length
          · have hjl' : (j : Int) < (F.length : Int) := by omega
            obtain ⟨g, rfl, hat, hBg, hcl⟩ := HZ.out.at (by omega)
            have z0 := hat.cell hjl
            rw [Nat.zero_add] at z0
            have HAt := Lib.hid hat
            clear hat
            by_cases hlf : nth F j < f
            · go_wp2_with fail
              go_round
              case rel => exact ⟨j + 1, by omega, by go_num, fun i hi => by rcases (show i < j ∨ i = j by omega) with e | rfl; exact HLs.out i e; exact hlf⟩
              case measure => simp [intOf]; omega
            · have hlfB : decide (nth F j < f) = false := decide_eq_false hlf
              have HJ := Lib.hid (lessN_eq hj HLs.out (fun _ => by omega))
              have hjE : ((j : Int) == (F.length : Int)) = false := by simp; omega
              have hjB : decide ((j : Int) = (F.length : Int)) = false := decide_eq_false (by omega)
              by_cases heq : nth F j = f
              · have HFK : Hid (insI f F = F) := by unfold Hid insI; rw [← HJ.out, if_pos ⟨hjl, heq⟩]
                have heN : (nth F j != f) = false := by simp [heq]
                have heB : decide (nth F j = f) = true := decide_eq_true heq
                go_wp2_with fail
                go_roundw
                case rel => exact ⟨k + 1, by omega, by go_num, by rw [HIns.out, HFK.out]; exact HZ.out, by rw [HIns.out, HFK.out]; intro h; omega, HBR.out⟩
                case measure => simp [intOf]; omega
              · have HFI : Hid (insI f F = F.take j ++ ([f] ++ F.drop j)) := by unfold Hid insI; rw [← HJ.out, if_neg (fun h => heq h.2)]
                have heN : (nth F j != f) = true := by simp [heq]
                have heB : decide (nth F j = f) = false := decide_eq_false heq
                go_wp2_with fail
                have hcj : c ≠ j := by omega
                have hjc : (j : Int) ≤ (c : Int) := by omega
                have hjl2 : (j : Int) ≤ (F.length : Int) := by omega
                have hj00 : (0 : Int) ≤ (j : Int) := by omega
                have hgw : g < wr.heap.size := HAt.out.1
                go_region_held3 (fun _ => True) (trivial)
                  ((first
                    | (refine step_app_own _ rfl (.tmp 76) (.tmp 79) (by rfl) wr.heap.size (.slice (some ⟨wr.heap.size, 0, none⟩) 1 1) [f] (by rfl) (by first | exact GrowI.one wr.drew f _ (Nat.le_refl _) | exact GrowI.one wr f _ (Nat.le_refl _) | (trace_state; fail)) ⟨g, j, none⟩ (F.length - j) (c - j) (F.drop j) (by first | rfl | (trace_state; fail)) (frm_cell (HAt.out.below ((Below.refl wr.heap.size wr).drew.alloc (Nat.le_refl _) (.cells #[.int .i64 f] 3)) HAt.out.1)) (by simp) (by simp; omega) (by simp) ?_
                       intro v80 w80 hg80 hb80 _
                       obtain ⟨x8, c8, rfl⟩ := hg80.form
                       obtain ⟨g8, rfl, hat8, hB8, _⟩ := hg80.at (by simp)
                       have HB80 := Lib.hid (((Below.refl wr.heap.size wr).drew.alloc (Nat.le_refl _) (.cells #[.int .i64 f] 3)).trans hb80)
                       have HA80 := Lib.hid hat8
                       clear hg80 hb80 hat8)
                    | (refine step_app_new _ rfl (.tmp 74) (.tmp 80) (by rfl) ⟨g, 0, none⟩ j (F.take j) (by first | rfl | (trace_state; fail)) (by rw [List.length_take]; omega) (frm_head (HAt.out.below HB80.out HAt.out.1)) ⟨g8, 0, none⟩ ([f] ++ F.drop j).length c8 ([f] ++ F.drop j) (by first | rfl | (trace_state; fail)) (frm_cell (a := 0) HA80.out) rfl (by simp) (by simp; omega) ?_
                       intro v81 w81 hg81 hb81
                       have HG81 := Lib.hid hg81
                       have HB81 := Lib.hid (HB80.out.trans (hb81.mono HB80.out.size))
                       clear hg81 hb81)
                    | (trace_state; fail)))
                go_wp2_with fail
                go_roundw
                case rel => exact ⟨k + 1, by omega, by go_num, by rw [HIns.out, HFI.out]; exact HG81.out.mono (Nat.le_trans HBR.out.size HB80.out.size), by rw [HIns.out, HFI.out]; intro h; simp at h, HBR.out.trans (HB81.out.mono HBR.out.size)⟩
                case measure => simp [intOf]; omega
          · obtain rfl : j = F.length := by omega
            have hnl : decide ((F.length : Int) < (F.length : Int)) = false := decide_eq_false (by omega)
            have HJ := Lib.hid (lessN_eq hj HLs.out (fun h => absurd h (by omega)))
            have HFI : Hid (insI f F = F.take F.length ++ ([f] ++ F.drop F.length)) := by unfold Hid insI; rw [← HJ.out, if_neg (fun h => absurd h.1 (by omega))]
            by_cases hF0 : F.length = 0
            · have hFn : F = [] := List.eq_nil_of_length_eq_zero hF0
              subst hFn
              have hsl := HNil.out rfl
              cases hsl
              go_wp2_with fail
              go_region_held3 (fun _ => True) (trivial)
                ((first
                  | (refine step_app_run _ rfl (.tmp 76) (.tmp 79) 54 (by rfl) (.slice (some ⟨wr.heap.size, 0, none⟩) 1 1) (.slice none 0 0) (by rfl) (by rfl) _ _ (run_onto_none _ _ _) ?_)
                  | (refine step_app_own _ rfl (.tmp 74) (.tmp 80) (by rfl) wr.heap.size (.slice none 0 0) [] (by rfl) (World.ownsRow_nil _ _ _ _) ⟨wr.heap.size, 0, none⟩ 1 1 [f] (by rfl) (by first | exact frm_cell (a := 0) (At.one wr.drew f _) | exact frm_cell (a := 0) (At.one wr f _) | (trace_state; fail)) rfl (by simp) (by simp) ?_
                     intro v81 w81 hg81 hb81 _
                     have HG81 := Lib.hid hg81
                     have HB81 := Lib.hid (((Below.refl wr.heap.size wr).drew.alloc (Nat.le_refl _) (.cells #[.int .i64 f] 3)).trans hb81)
                     clear hg81 hb81)
                  | (trace_state; fail)))
              go_wp2_with fail
              go_roundw
              case rel => exact ⟨k + 1, by omega, by go_num, by rw [HIns.out, HFI.out]; exact HG81.out.mono HBR.out.size, by rw [HIns.out, HFI.out]; intro h; simp at h, HBR.out.trans (HB81.out.mono HBR.out.size)⟩
              case measure => simp [intOf]; omega
            · obtain ⟨g, rfl, hat, hBg, hcl⟩ := HZ.out.at (by omega)
              have HAt := Lib.hid hat
              clear hat
              have HFE : Hid (insI f F = F ++ [f]) := by unfold Hid; rw [HFI.out, List.take_length, List.drop_length]; rfl
              clear HFI
              by_cases hcF : c = F.length
              · rw [hcF] at HZ ⊢
                clear HNil hcF hcl
                go_wp2_with fail
                have hjl2 : (F.length : Int) ≤ (F.length : Int) := by omega
                have hj00 : (0 : Int) ≤ (F.length : Int) := by omega
                have hgw : g < wr.heap.size := HAt.out.1
                go_region_held3 (fun _ => True) (trivial)
                  ((first
                    | (refine step_app_own _ rfl (.tmp 76) (.tmp 79) (by rfl) wr.heap.size (.slice (some ⟨wr.heap.size, 0, none⟩) 1 1) [f] (by rfl) (by first | exact GrowI.one wr.drew f _ (Nat.le_refl _) | exact GrowI.one wr f _ (Nat.le_refl _) | (trace_state; fail)) ⟨g, 0, none⟩ 0 (0) [] (by first | rfl | (trace_state; fail)) (by simp) rfl (by simp) (by simp) ?_
                       intro v80 w80 hg80 hb80 _
                       rw [List.append_nil] at hg80
                       obtain ⟨x8, c8, rfl⟩ := hg80.form
                       obtain ⟨g8, rfl, hat8, hB8, _⟩ := hg80.at (by simp)
                       have HB80 := Lib.hid (((Below.refl wr.heap.size wr).drew.alloc (Nat.le_refl _) (.cells #[.int .i64 f] 3)).trans hb80)
                       have HA80 := Lib.hid hat8
                       clear hg80 hb80 hat8)
                    | (refine step_app_new _ rfl (.tmp 74) (.tmp 80) (by rfl) ⟨g, 0, none⟩ F.length F (by first | rfl | (trace_state; fail)) rfl (frm_cell (a := 0) (HAt.out.below HB80.out HAt.out.1)) ⟨g8, 0, none⟩ 1 c8 [f] (by first | rfl | (trace_state; fail)) (frm_cell (a := 0) HA80.out) rfl (by omega) (by omega) ?_
                       intro v81 w81 hg81 hb81
                       have HG81 := Lib.hid hg81
                       have HB81 := Lib.hid (HB80.out.trans (hb81.mono HB80.out.size))
                       clear hg81 hb81)
                    | (trace_state; fail)))
                go_wp2_with fail
                go_roundw
                case rel => exact ⟨k + 1, by omega, by go_num, by rw [HIns.out, HFE.out]; exact HG81.out.mono (Nat.le_trans HBR.out.size HB80.out.size), by rw [HIns.out, HFE.out]; intro h; simp at h, HBR.out.trans (HB81.out.mono HBR.out.size)⟩
                case measure => simp [intOf]; omega
              · have hjc : (F.length : Int) ≤ (c : Int) := by omega
                go_wp2_with fail
                have hjl2 : (F.length : Int) ≤ (F.length : Int) := by omega
                have hj00 : (0 : Int) ≤ (F.length : Int) := by omega
                have hgw : g < wr.heap.size := HAt.out.1
                go_region_held3 (fun _ => True) (trivial)
                  ((first
                    | (refine step_app_own _ rfl (.tmp 76) (.tmp 79) (by rfl) wr.heap.size (.slice (some ⟨wr.heap.size, 0, none⟩) 1 1) [f] (by rfl) (by first | exact GrowI.one wr.drew f _ (Nat.le_refl _) | exact GrowI.one wr f _ (Nat.le_refl _) | (trace_state; fail)) ⟨g, F.length, none⟩ 0 (c - F.length) [] (by first | rfl | (trace_state; fail)) (by simp) rfl (by simp) (by simp) ?_
                       intro v80 w80 hg80 hb80 _
                       rw [List.append_nil] at hg80
                       obtain ⟨x8, c8, rfl⟩ := hg80.form
                       obtain ⟨g8, rfl, hat8, hB8, _⟩ := hg80.at (by simp)
                       have HB80 := Lib.hid (((Below.refl wr.heap.size wr).drew.alloc (Nat.le_refl _) (.cells #[.int .i64 f] 3)).trans hb80)
                       have HA80 := Lib.hid hat8
                       clear hg80 hb80 hat8)
                    | (refine step_app_new _ rfl (.tmp 74) (.tmp 80) (by rfl) ⟨g, 0, none⟩ F.length F (by first | rfl | (trace_state; fail)) rfl (frm_cell (a := 0) (HAt.out.below HB80.out HAt.out.1)) ⟨g8, 0, none⟩ 1 c8 [f] (by first | rfl | (trace_state; fail)) (frm_cell (a := 0) HA80.out) rfl (by omega) (by omega) ?_
                       intro v81 w81 hg81 hb81
                       have HG81 := Lib.hid hg81
                       have HB81 := Lib.hid (HB80.out.trans (hb81.mono HB80.out.size))
                       clear hg81 hb81)
                    | (trace_state; fail)))
                go_wp2_with fail
                go_roundw
                case rel => exact ⟨k + 1, by omega, by go_num, by rw [HIns.out, HFE.out]; exact HG81.out.mono (Nat.le_trans HBR.out.size HB80.out.size), by rw [HIns.out, HFE.out]; intro h; simp at h, HBR.out.trans (HB81.out.mono HBR.out.size)⟩
                case measure => simp [intOf]; omega
      · obtain ⟨q, rfl⟩ : ∃ q, k = n + q := ⟨k - n, by omega⟩
        have hknB : decide (((n + q : Nat) : Int) < (n : Int)) = false := decide_eq_false (by omega)
        have hknN : decide (n + q < n) = false := decide_eq_false (by omega)
        have hsub : ((n + q : Nat) : Int) - (n : Int) = (q : Int) := by omega
        have hsub2 : (n : Int) + (q : Int) - (n : Int) = (q : Int) := by omega
        have hq' : (q : Int) < (n' : Int) := by omega
        obtain ⟨u0, _⟩ := HBB.out.2 q (by omega)
        have HF0 := Lib.hid (HCn2.out q (by omega))
        rw [HF0.out] at HIns
        generalize (bnth m q).frm = f at *
        generalize hk0 : n + q = k at *
        go_wp2_with fail
        go_loop [9] (fun q => ∃ j : Nat, j ≤ F.length ∧ q = .int .i64 j ∧ ∀ i, i < j → nth F i < f) (fun q => F.length - (intOf q).toNat)
        case atStart => exact ⟨0, Nat.zero_le _, rfl, fun i hi => absurd hi (by omega)⟩
        case round =>
          obtain ⟨j, hj, rfl, hless⟩ := hrel
          have HLs := Lib.hid hless
          clear hless
          by_cases hjl : j < F.length
          · have hjl' : (j : Int) < (F.length : Int) := by omega
            obtain ⟨g, rfl, hat, hBg, hcl⟩ := HZ.out.at (by omega)
            have z0 := hat.cell hjl
            rw [Nat.zero_add] at z0
            have HAt := Lib.hid hat
            clear hat
            by_cases hlf : nth F j < f
            · go_wp2_with fail
              go_round
              case rel => exact ⟨j + 1, by omega, by go_num, fun i hi => by rcases (show i < j ∨ i = j by omega) with e | rfl; exact HLs.out i e; exact hlf⟩
              case measure => simp [intOf]; omega
            · have hlfB : decide (nth F j < f) = false := decide_eq_false hlf
              have HJ := Lib.hid (lessN_eq hj HLs.out (fun _ => by omega))
              have hjE : ((j : Int) == (F.length : Int)) = false := by simp; omega
              have hjB : decide ((j : Int) = (F.length : Int)) = false := decide_eq_false (by omega)
              by_cases heq : nth F j = f
              · have HFK : Hid (insI f F = F) := by unfold Hid insI; rw [← HJ.out, if_pos ⟨hjl, heq⟩]
                have heN : (nth F j != f) = false := by simp [heq]
                have heB : decide (nth F j = f) = true := decide_eq_true heq
                go_wp2_with fail
                go_roundw
                case rel => exact ⟨k + 1, by omega, by go_num, by rw [HIns.out, HFK.out]; exact HZ.out, by rw [HIns.out, HFK.out]; intro h; omega, HBR.out⟩
                case measure => simp [intOf]; omega
              · have HFI : Hid (insI f F = F.take j ++ ([f] ++ F.drop j)) := by unfold Hid insI; rw [← HJ.out, if_neg (fun h => heq h.2)]
                have heN : (nth F j != f) = true := by simp [heq]
                have heB : decide (nth F j = f) = false := decide_eq_false heq
                go_wp2_with fail
                have hcj : c ≠ j := by omega
                have hjc : (j : Int) ≤ (c : Int) := by omega
                have hjl2 : (j : Int) ≤ (F.length : Int) := by omega
                have hj00 : (0 : Int) ≤ (j : Int) := by omega
                have hgw : g < wr.heap.size := HAt.out.1
                go_region_held3 (fun _ => True) (trivial)
                  ((first
                    | (refine step_app_own _ rfl (.tmp 76) (.tmp 79) (by rfl) wr.heap.size (.slice (some ⟨wr.heap.size, 0, none⟩) 1 1) [f] (by rfl) (by first | exact GrowI.one wr.drew f _ (Nat.le_refl _) | exact GrowI.one wr f _ (Nat.le_refl _) | (trace_state; fail)) ⟨g, j, none⟩ (F.length - j) (c - j) (F.drop j) (by first | rfl | (trace_state; fail)) (frm_cell (HAt.out.below ((Below.refl wr.heap.size wr).drew.alloc (Nat.le_refl _) (.cells #[.int .i64 f] 3)) HAt.out.1)) (by simp) (by simp; omega) (by simp) ?_
                       intro v80 w80 hg80 hb80 _
                       obtain ⟨x8, c8, rfl⟩ := hg80.form
                       obtain ⟨g8, rfl, hat8, hB8, _⟩ := hg80.at (by simp)
                       have HB80 := Lib.hid (((Below.refl wr.heap.size wr).drew.alloc (Nat.le_refl _) (.cells #[.int .i64 f] 3)).trans hb80)
                       have HA80 := Lib.hid hat8
                       clear hg80 hb80 hat8)
                    | (refine step_app_new _ rfl (.tmp 74) (.tmp 80) (by rfl) ⟨g, 0, none⟩ j (F.take j) (by first | rfl | (trace_state; fail)) (by rw [List.length_take]; omega) (frm_head (HAt.out.below HB80.out HAt.out.1)) ⟨g8, 0, none⟩ ([f] ++ F.drop j).length c8 ([f] ++ F.drop j) (by first | rfl | (trace_state; fail)) (frm_cell (a := 0) HA80.out) rfl (by simp) (by simp; omega) ?_
                       intro v81 w81 hg81 hb81
                       have HG81 := Lib.hid hg81
                       have HB81 := Lib.hid (HB80.out.trans (hb81.mono HB80.out.size))
                       clear hg81 hb81)
                    | (trace_state; fail)))
                go_wp2_with fail
                go_roundw
                case rel => exact ⟨k + 1, by omega, by go_num, by rw [HIns.out, HFI.out]; exact HG81.out.mono (Nat.le_trans HBR.out.size HB80.out.size), by rw [HIns.out, HFI.out]; intro h; simp at h, HBR.out.trans (HB81.out.mono HBR.out.size)⟩
                case measure => simp [intOf]; omega
          · obtain rfl : j = F.length := by omega
            have hnl : decide ((F.length : Int) < (F.length : Int)) = false := decide_eq_false (by omega)
            have HJ := Lib.hid (lessN_eq hj HLs.out (fun h => absurd h (by omega)))
            have HFI : Hid (insI f F = F.take F.length ++ ([f] ++ F.drop F.length)) := by unfold Hid insI; rw [← HJ.out, if_neg (fun h => absurd h.1 (by omega))]
            by_cases hF0 : F.length = 0
            · have hFn : F = [] := List.eq_nil_of_length_eq_zero hF0
              subst hFn
              have hsl := HNil.out rfl
              cases hsl
              go_wp2_with fail
              go_region_held3 (fun _ => True) (trivial)
                ((first
                  | (refine step_app_run _ rfl (.tmp 76) (.tmp 79) 54 (by rfl) (.slice (some ⟨wr.heap.size, 0, none⟩) 1 1) (.slice none 0 0) (by rfl) (by rfl) _ _ (run_onto_none _ _ _) ?_)
                  | (refine step_app_own _ rfl (.tmp 74) (.tmp 80) (by rfl) wr.heap.size (.slice none 0 0) [] (by rfl) (World.ownsRow_nil _ _ _ _) ⟨wr.heap.size, 0, none⟩ 1 1 [f] (by rfl) (by first | exact frm_cell (a := 0) (At.one wr.drew f _) | exact frm_cell (a := 0) (At.one wr f _) | (trace_state; fail)) rfl (by simp) (by simp) ?_
                     intro v81 w81 hg81 hb81 _
                     have HG81 := Lib.hid hg81
                     have HB81 := Lib.hid (((Below.refl wr.heap.size wr).drew.alloc (Nat.le_refl _) (.cells #[.int .i64 f] 3)).trans hb81)
                     clear hg81 hb81)
                  | (trace_state; fail)))
              go_wp2_with fail
              go_roundw
              case rel => exact ⟨k + 1, by omega, by go_num, by rw [HIns.out, HFI.out]; exact HG81.out.mono HBR.out.size, by rw [HIns.out, HFI.out]; intro h; simp at h, HBR.out.trans (HB81.out.mono HBR.out.size)⟩
              case measure => simp [intOf]; omega
            · obtain ⟨g, rfl, hat, hBg, hcl⟩ := HZ.out.at (by omega)
              have HAt := Lib.hid hat
              clear hat
              have HFE : Hid (insI f F = F ++ [f]) := by unfold Hid; rw [HFI.out, List.take_length, List.drop_length]; rfl
              clear HFI
              by_cases hcF : c = F.length
              · rw [hcF] at HZ ⊢
                clear HNil hcF hcl
                go_wp2_with fail
                have hjl2 : (F.length : Int) ≤ (F.length : Int) := by omega
                have hj00 : (0 : Int) ≤ (F.length : Int) := by omega
                have hgw : g < wr.heap.size := HAt.out.1
                go_region_held3 (fun _ => True) (trivial)
                  ((first
                    | (refine step_app_own _ rfl (.tmp 76) (.tmp 79) (by rfl) wr.heap.size (.slice (some ⟨wr.heap.size, 0, none⟩) 1 1) [f] (by rfl) (by first | exact GrowI.one wr.drew f _ (Nat.le_refl _) | exact GrowI.one wr f _ (Nat.le_refl _) | (trace_state; fail)) ⟨g, 0, none⟩ 0 (0) [] (by first | rfl | (trace_state; fail)) (by simp) rfl (by simp) (by simp) ?_
                       intro v80 w80 hg80 hb80 _
                       rw [List.append_nil] at hg80
                       obtain ⟨x8, c8, rfl⟩ := hg80.form
                       obtain ⟨g8, rfl, hat8, hB8, _⟩ := hg80.at (by simp)
                       have HB80 := Lib.hid (((Below.refl wr.heap.size wr).drew.alloc (Nat.le_refl _) (.cells #[.int .i64 f] 3)).trans hb80)
                       have HA80 := Lib.hid hat8
                       clear hg80 hb80 hat8)
                    | (refine step_app_new _ rfl (.tmp 74) (.tmp 80) (by rfl) ⟨g, 0, none⟩ F.length F (by first | rfl | (trace_state; fail)) rfl (frm_cell (a := 0) (HAt.out.below HB80.out HAt.out.1)) ⟨g8, 0, none⟩ 1 c8 [f] (by first | rfl | (trace_state; fail)) (frm_cell (a := 0) HA80.out) rfl (by omega) (by omega) ?_
                       intro v81 w81 hg81 hb81
                       have HG81 := Lib.hid hg81
                       have HB81 := Lib.hid (HB80.out.trans (hb81.mono HB80.out.size))
                       clear hg81 hb81)
                    | (trace_state; fail)))
                go_wp2_with fail
                go_roundw
                case rel => exact ⟨k + 1, by omega, by go_num, by rw [HIns.out, HFE.out]; exact HG81.out.mono (Nat.le_trans HBR.out.size HB80.out.size), by rw [HIns.out, HFE.out]; intro h; simp at h, HBR.out.trans (HB81.out.mono HBR.out.size)⟩
                case measure => simp [intOf]; omega
              · have hjc : (F.length : Int) ≤ (c : Int) := by omega
                go_wp2_with fail
                have hjl2 : (F.length : Int) ≤ (F.length : Int) := by omega
                have hj00 : (0 : Int) ≤ (F.length : Int) := by omega
                have hgw : g < wr.heap.size := HAt.out.1
                go_region_held3 (fun _ => True) (trivial)
                  ((first
                    | (refine step_app_own _ rfl (.tmp 76) (.tmp 79) (by rfl) wr.heap.size (.slice (some ⟨wr.heap.size, 0, none⟩) 1 1) [f] (by rfl) (by first | exact GrowI.one wr.drew f _ (Nat.le_refl _) | exact GrowI.one wr f _ (Nat.le_refl _) | (trace_state; fail)) ⟨g, F.length, none⟩ 0 (c - F.length) [] (by first | rfl | (trace_state; fail)) (by simp) rfl (by simp) (by simp) ?_
                       intro v80 w80 hg80 hb80 _
                       rw [List.append_nil] at hg80
                       obtain ⟨x8, c8, rfl⟩ := hg80.form
                       obtain ⟨g8, rfl, hat8, hB8, _⟩ := hg80.at (by simp)
                       have HB80 := Lib.hid (((Below.refl wr.heap.size wr).drew.alloc (Nat.le_refl _) (.cells #[.int .i64 f] 3)).trans hb80)
                       have HA80 := Lib.hid hat8
                       clear hg80 hb80 hat8)
                    | (refine step_app_new _ rfl (.tmp 74) (.tmp 80) (by rfl) ⟨g, 0, none⟩ F.length F (by first | rfl | (trace_state; fail)) rfl (frm_cell (a := 0) (HAt.out.below HB80.out HAt.out.1)) ⟨g8, 0, none⟩ 1 c8 [f] (by first | rfl | (trace_state; fail)) (frm_cell (a := 0) HA80.out) rfl (by omega) (by omega) ?_
                       intro v81 w81 hg81 hb81
                       have HG81 := Lib.hid hg81
                       have HB81 := Lib.hid (HB80.out.trans (hb81.mono HB80.out.size))
                       clear hg81 hb81)
                    | (trace_state; fail)))
                go_wp2_with fail
                go_roundw
                case rel => exact ⟨k + 1, by omega, by go_num, by rw [HIns.out, HFE.out]; exact HG81.out.mono (Nat.le_trans HBR.out.size HB80.out.size), by rw [HIns.out, HFE.out]; intro h; simp at h, HBR.out.trans (HB81.out.mono HBR.out.size)⟩
                case measure => simp [intOf]; omega
    · have HKn : Hid (k = n + n') := by unfold Hid; omega
      have hltB : decide ((k : Int) < (n : Int) + (n' : Int)) = false := decide_eq_false (by omega)
      have HF : Hid (insAll [] (C.take k) = fromsL l m) := by unfold Hid; rw [List.take_of_length_le (by omega)]; exact HCf.out
      have hFl24 : (fromsL l m).length ≤ 24 := by rw [← HF.out]; omega
      rw [HF.out] at HZ ⊢
      clear hFl hk hlt
      have hpos : 0 < (fromsL l m).length := by
        have h0 : (0 : Int) ∈ fromsL l m := (froms_mem l m 0).2 (.inl ⟨0, by omega, HL.out.2.2.2.1⟩)
        exact List.length_pos_of_mem h0
      obtain ⟨g, rfl, hat, hBg, hcl⟩ := HZ.out.at hpos
      have HAt := Lib.hid hat
      clear hat HNil
      have HBW := Lib.hid (HB0.out.trans (HBR.out.mono HB0.out.size))
      have HR1 := Lib.hid (HR0.out.below HBR.out)
      go_wp2_with fail
      have HO0 := Lib.hid (OBox.made wr s (.slice none 0 0) 24)
      have hs3 : (wr.alloc (.cells #[.string s, .slice none 0 0] 24)).heap.size = wr.heap.size + 1 := by simp
      have HBx := Lib.hid (kbelow_box wr (.cells #[.string s, .slice none 0 0] 24))
      have hTw : w.heap.size + 2 < wr.heap.size := HR1.out.1
      have hgw : g < wr.heap.size := HAt.out.1
      have HA3 := Lib.hid (HAt.out.below HBx.out HAt.out.1)
      have HT3 := Lib.hid (HT1.out.below HBx.out HT1.out.1)
      have HU3 := Lib.hid (HU1.out.below HBx.out HU1.out.1)
      have HR3 := Lib.hid (HR1.out.below HBx.out)
      have HBA3 := Lib.hid (HBA.out.below HBx.out HBA.out.1)
      have HBB3 := Lib.hid (HBB.out.below HBx.out HBB.out.1)
      have HB3 := Lib.hid (HBW.out.trans (HBx.out.mono HBW.out.size))
      have hb1w : b1 < wr.heap.size := HBA.out.1
      have hb2w : b2 < wr.heap.size := HBB.out.1
      clear x0 x1 y0 y1 HT1 HU1 HR1 HBA HBB HZ HBx HAt
      generalize wr.alloc (.cells #[.string s, .slice none 0 0] 24) = W3 at *
      generalize wr = R at *
      go_loopw [11] (fun i wr => ∃ k : Nat, k ≤ (fromsL l m).length ∧ i = .int .i64 k ∧ OutIs wr R.heap.size W3.heap.size s ((bothL l m).take k) ∧ (∀ j, j < k → decide (10000 < (bnth (bothL l m) j).rate) = false) ∧ Below R.heap.size W3 wr ∧ W3.heap.size ≤ wr.heap.size) (fun i _ => (fromsL l m).length - (intOf i).toNat)
      case atStart => exact ⟨0, Nat.zero_le _, rfl, ⟨_, HO0.out, World.ownsRow_nil _ _ _ _⟩, fun j hj => absurd hj (by omega), Below.refl _ _, Nat.le_refl _⟩
      case round =>
        obtain ⟨k, hk, rfl, ⟨v, hO, hG⟩, hall, hbq, hsq⟩ := hrel
        have htl : ((bothL l m).take k).length = k := by rw [List.length_take, both_len]; omega
        obtain ⟨x, c', rfl, _⟩ := hG.slice
        rw [htl] at hG hO
        have HO := Lib.hid hO
        have HG := Lib.hid hG
        have HAl := Lib.hid hall
        have HBq := Lib.hid hbq
        have HTq := Lib.hid (HT3.out.below hbq (by omega))
        have HUq := Lib.hid (HU3.out.below hbq (by omega))
        have HAq := Lib.hid (HA3.out.below hbq hgw)
        have HBAq := Lib.hid (HBA3.out.below hbq hb1w)
        have HBBq := Lib.hid (HBB3.out.below hbq hb2w)
        have HRq : Hid (RBox wr (w.heap.size + 2)) := by
          obtain ⟨r0, ⟨r1, r2⟩, r3, r4⟩ := HR3.out
          exact ⟨by omega, ⟨(hbq.cell (p := ⟨w.heap.size + 2, 0, none⟩) hTw).trans r1, (hbq.frozen (p := ⟨w.heap.size + 2, 0, none⟩) hTw).trans r2⟩, ⟨(hbq.cell (p := ⟨w.heap.size + 2, 1, none⟩) hTw).trans r3, (hbq.frozen (p := ⟨w.heap.size + 2, 1, none⟩) hTw).trans r4⟩⟩
        have HBw := Lib.hid (HB3.out.trans (hbq.mono (by omega)))
        clear hO hG hall hbq
        by_cases hlt : k < (fromsL l m).length
        · have hlt' : (k : Int) < ((fromsL l m).length : Int) := by omega
          have u0 := HAq.out.cell hlt
          rw [Nat.zero_add] at u0
          have hmon := froms_money HL.out HM.out hlt
          have HTk := Lib.hid (both_take l m hlt)
          have HNk := Lib.hid (both_nth l m hlt)
          have hr1' : 0 ≤ rateN l (nth (fromsL l m) k + 1) ∧ rateN l (nth (fromsL l m) k + 1) ≤ 10000 := rU_bd HL.out (nth (fromsL l m) k + 1) l.length (Nat.le_refl _)
          have hr2' : 0 ≤ rateN m (nth (fromsL l m) k + 1) ∧ rateN m (nth (fromsL l m) k + 1) ≤ 10000 := rU_bd HM.out (nth (fromsL l m) k + 1) m.length (Nat.le_refl _)
          obtain ⟨_, x0, x1⟩ := HTq.out
          obtain ⟨_, y0, y1⟩ := HUq.out
          have hwr1 : w.heap.size < wr.heap.size := by omega
          have hwr2 : w.heap.size + 1 < wr.heap.size := by omega
          have hgq : g < wr.heap.size := by omega
          generalize hf : nth (fromsL l m) k = f at *
          generalize hra : rateN l (f + 1) = ra at *
          generalize hrb : rateN m (f + 1) = rb at *
          go_wp2_with fail
          go_region_held3 (fun w' => w'.cell? ⟨w.heap.size, 0, none⟩ = some (.string s) ∧ w'.cell? ⟨w.heap.size, 1, none⟩ = some (.slice (some ⟨b1, o1, none⟩) n cap) ∧ w'.cell? ⟨w.heap.size + 1, 0, none⟩ = some (.string t) ∧ w'.cell? ⟨w.heap.size + 1, 1, none⟩ = some (.slice (some ⟨b2, o2, none⟩) n' cap') ∧ w'.cell? ⟨g, k, none⟩ = some (.int .i64 f)) (go_keep)
            (first
              | (go_at_call 42; refine (rateFrom_ref s _ n cap l f _ (.inr ⟨b1, o1, rfl, HBAq.out.below (Below.refl _ _).drew HBAq.out.1⟩) hn k1 k1' hmon.1 hmon.2).mono ?_; rintro e wA ⟨rfl, hb⟩
                 rw [hra]
                 have HBa := Lib.hid (kfrom_drew hb); clear hb
                 have a0 : wA.cell? ⟨w.heap.size, 0, none⟩ = some (.string s) := (HBa.out.cell (p := ⟨w.heap.size, 0, none⟩) hwr1).trans x0
                 have a1 : wA.cell? ⟨w.heap.size, 1, none⟩ = some (.slice (some ⟨b1, o1, none⟩) n cap) := (HBa.out.cell (p := ⟨w.heap.size, 1, none⟩) hwr1).trans x1
                 have a2 : wA.cell? ⟨w.heap.size + 1, 0, none⟩ = some (.string t) := (HBa.out.cell (p := ⟨w.heap.size + 1, 0, none⟩) hwr2).trans y0
                 have a3 : wA.cell? ⟨w.heap.size + 1, 1, none⟩ = some (.slice (some ⟨b2, o2, none⟩) n' cap') := (HBa.out.cell (p := ⟨w.heap.size + 1, 1, none⟩) hwr2).trans y1
                 have a4 : wA.cell? ⟨g, k, none⟩ = some (.int .i64 f) := (HBa.out.cell (p := ⟨g, k, none⟩) hgq).trans u0)
              | (go_at_call 42; refine (rateFrom_ref t _ n' cap' m f _ (.inr ⟨b2, o2, rfl, HBBq.out.below HBa.out HBBq.out.1⟩) hn' k2 k2' hmon.1 hmon.2).mono ?_; rintro e wB ⟨rfl, hb⟩
                 rw [hrb]
                 have HBb := Lib.hid (HBa.out.trans (hb.mono HBa.out.size)); clear hb
                 have a0 : wB.cell? ⟨w.heap.size, 0, none⟩ = some (.string s) := (HBb.out.cell (p := ⟨w.heap.size, 0, none⟩) hwr1).trans x0
                 have a1 : wB.cell? ⟨w.heap.size, 1, none⟩ = some (.slice (some ⟨b1, o1, none⟩) n cap) := (HBb.out.cell (p := ⟨w.heap.size, 1, none⟩) hwr1).trans x1
                 have a2 : wB.cell? ⟨w.heap.size + 1, 0, none⟩ = some (.string t) := (HBb.out.cell (p := ⟨w.heap.size + 1, 0, none⟩) hwr2).trans y0
                 have a3 : wB.cell? ⟨w.heap.size + 1, 1, none⟩ = some (.slice (some ⟨b2, o2, none⟩) n' cap') := (HBb.out.cell (p := ⟨w.heap.size + 1, 1, none⟩) hwr2).trans y1
                 have a4 : wB.cell? ⟨g, k, none⟩ = some (.int .i64 f) := (HBb.out.cell (p := ⟨g, k, none⟩) hgq).trans u0))
          rw [IntWalk.i64_in (ra + rb) (by omega)]
          have HNr : Hid ((bnth (bothL l m) k).rate = ra + rb) := by unfold Hid; rw [HNk.out]
          have HRb := Lib.hid (HRq.out.below HBb.out)
          have HOb := Lib.hid (HO.out.below HBb.out HO.out.1)
          have HGb := Lib.hid (HG.out.below HBb.out)
          have HBwb := Lib.hid (HBw.out.trans (HBb.out.mono HBw.out.size))
          have HBqb := Lib.hid (HBq.out.trans (HBb.out.mono (Nat.le_trans (by omega) hsq)))
          have hsb := HBb.out.size
          clear x0 x1 y0 y1 u0 a0 a1 a2 a3
          by_cases hhi : 10000 < ra + rb
          · have HH := Lib.hid (highB_yes (l := bothL l m) (j := k) (by rw [both_len]; omega) (decide_eq_true (by rw [HNr.out]; exact hhi)))
            obtain ⟨_, ⟨q0, q1⟩, q2, q3⟩ := HRb.out
            go_wp2_with fail
            refine bodyPost_ret (v := .tuple #[.agg #[.string (⟨#[]⟩ : ByteArray), .slice none 0 0], .int .i64 3]) ?_ rfl ⟨_, _, _, rfl, .inl ⟨HH.out, rfl, rfl, rfl⟩, ?_⟩
            · obtain ⟨p0, p1⟩ := RBox.put HRb.out (⟨#[]⟩ : ByteArray) (.slice none 0 0)
              simp [results, Try.results23, go_sem, p0, p1]
            · exact (HBwb.out.setCell (by show w.heap.size ≤ w.heap.size + 2; omega) _).setCell (by show w.heap.size ≤ w.heap.size + 2; omega) _
          · have hhiB : decide (10000 < ra + rb) = false := decide_eq_false hhi
            obtain ⟨hob, ⟨t0, t1⟩, t2, t3⟩ := HOb.out
            have hgB : g < wB.heap.size := by omega
            have hW3 : W3.heap.size ≤ wB.heap.size := by omega
            go_wp2_with fail
            go_region_law (refine step_app_bk _ rfl (.tmp 108) (.tmp 115) rfl W3.heap.size (.slice x k c') ((bothL l m).take k) (by simp [Act.eval]) (by first | exact HGb.out.alloc _ | exact GrowB.alloc (w := wB.drew) HGb.out _ | (trace_state; fail)) wB.heap.size 0 1 1 [⟨f, ra + rb⟩] (by simp [Act.eval]) (by first | exact BAt.one wB.drew f (ra + rb) | exact BAt.one wB f (ra + rb) | (trace_state; fail)) rfl (by rw [htl]; omega) (by simp; omega) ?_
                           intro v9 w9 hg9 hb9
                           obtain ⟨x9, c9, rfl, _⟩ := hg9.slice
                           have HG9 := Lib.hid hg9
                           have HB9 := Lib.hid (((Below.refl wB.heap.size wB).drew.alloc (Nat.le_refl _) (.cells #[.int .i64 f, .int .i64 (ra + rb)] 43)).mono hW3 |>.trans hb9)
                           have HO9 := Lib.hid (HOb.out.below HB9.out (by omega))
                           obtain ⟨_, ⟨s0, s1⟩, s2, s3⟩ := HO9.out
                           clear hg9 hb9)
            · have h9l : ((bothL l m).take k ++ [(⟨f, ra + rb⟩ : Bk)]).length = k + 1 := by rw [List.length_append, htl]; rfl
              rw [h9l] at HG9
              go_wp2_with fail
              go_roundw
              case rel =>
                refine ⟨k + 1, by omega, by go_num, ⟨.slice x9 (k + 1) c9, HO9.out.put _, ?_⟩, fun j hj => ?_, ?_, ?_⟩
                · rw [HTk.out]
                  exact HG9.out.put (by show R.heap.size < W3.heap.size; omega) _
                · rcases (show j < k ∨ j = k by omega) with e | rfl
                  · exact HAl.out j e
                  · rw [HNr.out]; exact hhiB
                · exact (HBqb.out.trans (HB9.out.mono (by omega))).setCell (p := ⟨R.heap.size, 1, none⟩) (Nat.le_refl _) _
                · simp
                  have := HB9.out.size
                  omega
              case measure => simp [intOf]; omega
            · have h9l : ((bothL l m).take k ++ [(⟨f, ra + rb⟩ : Bk)]).length = k + 1 := by rw [List.length_append, htl]; rfl
              rw [h9l] at HG9
              go_wp2_with fail
              go_roundw
              case rel =>
                refine ⟨k + 1, by omega, by go_num, ⟨.slice x9 (k + 1) c9, HO9.out.put _, ?_⟩, fun j hj => ?_, ?_, ?_⟩
                · rw [HTk.out]
                  exact HG9.out.put (by show R.heap.size < W3.heap.size; omega) _
                · rcases (show j < k ∨ j = k by omega) with e | rfl
                  · exact HAl.out j e
                  · rw [HNr.out]; exact hhiB
                · exact (HBqb.out.trans (HB9.out.mono (by omega))).setCell (p := ⟨R.heap.size, 1, none⟩) (Nat.le_refl _) _
                · simp
                  have := HB9.out.size
                  omega
              case measure => simp [intOf]; omega
            · have h9l : ((bothL l m).take k ++ [(⟨f, ra + rb⟩ : Bk)]).length = k + 1 := by rw [List.length_append, htl]; rfl
              rw [h9l] at HG9
              go_wp2_with fail
              go_roundw
              case rel =>
                refine ⟨k + 1, by omega, by go_num, ⟨.slice x9 (k + 1) c9, HO9.out.put _, ?_⟩, fun j hj => ?_, ?_, ?_⟩
                · rw [HTk.out]
                  exact HG9.out.put (by show R.heap.size < W3.heap.size; omega) _
                · rcases (show j < k ∨ j = k by omega) with e | rfl
                  · exact HAl.out j e
                  · rw [HNr.out]; exact hhiB
                · exact (HBqb.out.trans (HB9.out.mono (by omega))).setCell (p := ⟨R.heap.size, 1, none⟩) (Nat.le_refl _) _
                · simp
                  have := HB9.out.size
                  omega
              case measure => simp [intOf]; omega
        · obtain rfl : k = (fromsL l m).length := by omega
          have hnl : decide (((fromsL l m).length : Int) < ((fromsL l m).length : Int)) = false := decide_eq_false (by omega)
          have HLow := Lib.hid (highB_of (l := bothL l m) (fun j hj => HAl.out j (by rw [← both_len]; exact hj)))
          have HE : Hid ((bothL l m).take (fromsL l m).length = bothL l m) := List.take_of_length_le (by rw [both_len]; omega)
          have HBL := Lib.hid (both_len l m)
          obtain ⟨_, ⟨q0, q1⟩, q2, q3⟩ := HRq.out
          by_cases h12 : 12 < (fromsL l m).length
          · have h12' : (12 : Int) < ((fromsL l m).length : Int) := by omega
            go_wp2_with fail
            refine bodyPost_ret (v := .tuple #[.agg #[.string (⟨#[]⟩ : ByteArray), .slice none 0 0], .int .i64 2]) ?_ rfl ⟨_, _, _, rfl, .inr (.inl ⟨HLow.out, by rw [HBL.out]; exact h12, rfl, rfl, rfl⟩), ?_⟩
            · obtain ⟨p0, p1⟩ := RBox.put HRq.out (⟨#[]⟩ : ByteArray) (.slice none 0 0)
              simp [results, Try.results23, go_sem, p0, p1]
            · exact (HBw.out.setCell (by show w.heap.size ≤ w.heap.size + 2; omega) _).setCell (by show w.heap.size ≤ w.heap.size + 2; omega) _
          · have h12B : decide ((12 : Int) < ((fromsL l m).length : Int)) = false := decide_eq_false (by omega)
            have h12N : decide (12 < (fromsL l m).length) = false := decide_eq_false h12
            obtain ⟨hob, ⟨t0, t1⟩, t2, t3⟩ := HO.out
            go_wp2_with fail
            refine bodyPost_ret (v := .tuple #[.agg #[.string s, .slice x (fromsL l m).length c'], .int .i64 0]) ?_ rfl ⟨_, _, _, rfl, .inr (.inr ⟨HLow.out, by rw [HBL.out]; omega, rfl, rfl, ?_⟩), ?_⟩
            · obtain ⟨p0, p1⟩ := RBox.put HRq.out s (.slice x (fromsL l m).length c')
              simp [results, Try.results23, go_sem, p0, p1]
            · have hh := HG.out
              rw [HE.out] at hh
              exact ((hh.put (by show w.heap.size + 2 < W3.heap.size; omega) _).put (by show w.heap.size + 2 < W3.heap.size; omega) _).mono (by omega)
            · exact (HBw.out.setCell (by show w.heap.size ≤ w.heap.size + 2; omega) _).setCell (by show w.heap.size ≤ w.heap.size + 2; omega) _
end Go.Proofs.Ytmiijmgidbbmhaa
