/-
  Promise Q3: the walks of postings, balances, checkAsked and Balance.
-/
import Derived.Test.YtdgcfakbmhchdaaQIter
import Derived.Test.YtdgcfakbmhchdaaSMap
import Derived.Maps.OwnIn
namespace Go.Proofs.Ytdgcfakbmhchdaa
open Go.RowKit Go.Shelf Go.Maps Go.WideMaps

attribute [local go_sem] Oper.semAt_some

set_option maxHeartbeats 1000000 in
theorem postings_in (F : Fence) (n : Nat) (hfn : F.fn 34) (hro : F.round = none) (a : Option Addr) (len cap : Nat) (f t : Int) (w : World) :
    CallsIn F n Try.prog 34 #[.slice a len cap, .int .i64 f, .int .i64 t] w fun e w' => e = .returned (.func (.func 48) #[] #[.pointer (some ⟨w.heap.size, 0, none⟩), .pointer (some ⟨w.heap.size + 1, 0, none⟩), .pointer (some ⟨w.heap.size + 1 + 1, 0, none⟩)]) ∧ w' = ((w.alloc (.cells #[.slice a len cap] 22)).alloc (.cells #[.int .i64 f] 3)).alloc (.cells #[.int .i64 t] 3) := by
  refine callsIn_of_wp Try.func34 rfl hfn ?_ hro
  simp only [Try.ntmps34, List.size_toArray, List.length_cons, List.length_nil, Nat.reduceAdd, Nat.reduceSub, Array.replicate_succ, Array.replicate_zero, List.push_toArray, List.append_toArray, List.nil_append, List.cons_append]
  gi_wp2
  go_ret
  exact ⟨rfl, rfl⟩
/-- Entries that came in, each with its own postings' place. -/
theorem CameE.wide {w : World} {a : Option Addr} {l : List En} (h : CameE w a l) {n : Nat} (hn : l.length = n) : 0 < n → ∃ b off, a = some ⟨b, off, none⟩ ∧ ∀ k, k < n → ∃ (ax : Option Addr) (cx : Nat), ∀ w', Go.RowKit.Below w.heap.size w w' → w'.cell? ⟨b, off + k * 2, none⟩ = some (.int .i64 (enth l k).day) ∧ w'.cell? ⟨b, off + k * 2 + 1, none⟩ = some (.slice ax (enth l k).ps.length cx) ∧ PsAt w' ax (enth l k).ps := by
  intro h0
  rcases h with h | ⟨b, off, rfl, hB, h⟩
  · omega
  · refine ⟨b, off, rfl, fun k hk => ?_⟩
    obtain ⟨ax, cx, h1, h2, h3⟩ := h k (by omega)
    exact ⟨ax, cx, fun w' hb => ⟨(hb.cell (p := ⟨b, off + k * 2, none⟩) hB).trans h1, (hb.cell (p := ⟨b, off + k * 2 + 1, none⟩) hB).trans h2, h3.below hb⟩⟩
/-- What the function that postings hands back does, where its boxes lie in w0. -/
theorem postings_stops (F : Fence) (n : Nat) (hfn : F.fn 48) (hro : F.round = none) (hn : 1 ≤ n) (Bj : Nat) (X : Nat → Prop) (w w0 : World) (hX : ∀ k, X k → w.heap.size ≤ k) (hB1 : Bj + 2 < w0.heap.size) (hB2 : ¬ X Bj ∧ ¬ X (Bj + 1) ∧ ¬ X (Bj + 2)) (hw : Go.RowKit.Below w.heap.size w w0)
    (a : Option Addr) (len cap : Nat) (l : List En) (hlen : l.length = len) (hl : len ≤ 100) (f t : Int) (hc : CameE w a l) (h20 : ∀ k, k < len → (enth l k).ps.length ≤ 20)
    (c0 : w0.cell? ⟨Bj, 0, none⟩ = some (.slice a len cap)) (c1 : w0.cell? ⟨Bj + 1, 0, none⟩ = some (.int .i64 f)) (c2 : w0.cell? ⟨Bj + 2, 0, none⟩ = some (.int .i64 t)) :
    SeqStopsK F n Try.prog 48 #[.pointer (some ⟨Bj, 0, none⟩), .pointer (some ⟨Bj + 1, 0, none⟩), .pointer (some ⟨Bj + 2, 0, none⟩)] (pv (pst l f t)) (KeepB w0.heap.size X) (fun ys => ys = List.range (pst l f t).length) (fun _ => True) (pst l f t).length w0 := fun lp J Jx W hW hJ _ hY h0 => by
  refine postings1_in F n hfn hro hn lp Bj w.heap.size w0.heap.size X hX hw.size hB1 hB2 a len cap l hlen hl f t J Jx hY W hW.size hJ ((hW.cell (p := ⟨Bj, 0, none⟩) (show Bj < _ by omega)).trans c0) ((hW.cell (p := ⟨Bj + 1, 0, none⟩) (show Bj + 1 < _ by omega)).trans c1) ((hW.cell (p := ⟨Bj + 2, 0, none⟩) (show Bj + 2 < _ by omega)).trans c2) ?_ h20 h0
  intro h0
  obtain ⟨b, off, e, hk⟩ := hc.wide hlen h0
  refine ⟨b, off, e, fun k hk' => ?_⟩
  obtain ⟨ax, cx, h⟩ := hk k hk'
  exact ⟨ax, cx, fun w' hb => h w' ((hw.trans (hW.mono hw.size)).trans hb)⟩
theorem keepB_b {N : Nat} {X : Nat → Prop} {w : World} (hN : N ≤ w.heap.size) (W : World) (l : Nat) (o o' : Obj) (hl : w.heap.size ≤ l) (h : W.heap[l]? = some o) (_ : o.isCells = false) (_ : o.isWalk = false) : KeepB N X W (W.putObj l o') :=
  (KeepB.refl N X W).grown (grownBy_putObj' W l o') (by have := (Array.getElem?_eq_some_iff.1 h).1; omega) (fun r e => by cases e; exact .inr (by omega))
/-- A posting in its box. -/
def PBox (W : World) (B : Nat) (x : Am) : Prop := W.heap[B]? = some (.cells #[.string x.name, .int .i64 x.mon] 60 (0, 0))
theorem PBox.cells {W : World} {B : Nat} {x : Am} (h : PBox W B x) : W.cell? ⟨B, 0, none⟩ = some (.string x.name) ∧ W.cell? ⟨B, 1, none⟩ = some (.int .i64 x.mon) := by
  simp [World.cell?, show W.heap[B]? = _ from h]
theorem PBox.own (B : Nat) (x : Am) : Own (fun (_ : Unit) W => PBox W B x) := fun s X Y row hs hg hrow => by
  have hlt : B < X.heap.size := (Array.getElem?_eq_some_iff.1 hs).1
  refine (hg.block B hlt (fun e' => ?_)).trans hs
  obtain ⟨o, ho, hc⟩ := hrow B e'.symm
  rw [show X.heap[B]? = _ from hs] at ho
  cases ho
  cases hc
theorem SumS.own {w : World} {b n : Nat} {g : ByteArray → Option Int} (h : SumS w b n g) {w' : World} {row : Option Nat} (hg : w.grownBy w' row) (hne : row ≠ some b) : SumS w' b n g := by
  obtain ⟨D, h1, h2⟩ := h
  exact ⟨D, h1.kept hg (fun e => hne e.symm), h2⟩
theorem jrE_ok {l : List En} (h : jrE l = 0) : l.length ≤ 100 ∧ (∀ r ∈ l, enE r = 0) ∧ upD l = true := by
  unfold jrE at h
  split at h
  · cases h
  · rename_i h2
    split at h
    · rename_i h0
      refine ⟨by omega, ensE_zero h0, ?_⟩
      cases hu : upD l
      · rw [hu] at h; simp at h
      · rfl
    · rename_i h0
      exact absurd h h0
theorem enE_ok {r : En} (h : enE r = 0) : dayB r.day = true ∧ 2 ≤ r.ps.length ∧ r.ps.length ≤ 20 ∧ ansB r.ps = true ∧ assB r.ps = true ∧ sumA r.ps = 0 := by
  unfold enE at h
  split at h
  · cases h
  · rename_i h1
    split at h
    · cases h
    · rename_i h2
      split at h
      · cases h
      · rename_i h3
        split at h
        · cases h
        · rename_i h4
          split at h
          · rename_i h5
            exact ⟨by simpa using h1, by omega, by omega, by simpa using h3, by simpa using h4, h5⟩
          · cases h
theorem pst_mem {l : List En} {f t : Int} {x : Am} (h : x ∈ pst l f t) : ∃ e ∈ l, x ∈ e.ps := by
  unfold pst at h
  obtain ⟨r, hr, ha⟩ := List.mem_flatMap.1 h
  exact ⟨r, (List.mem_filter.1 hr).1, ha⟩
theorem pst_all {l : List En} (h : jrE l = 0) (f t : Int) (i : Nat) : (anth (pst l f t) i).name.size ≤ maxLen ∧ monB (anth (pst l f t) i).mon = true := by
  by_cases hi : i < (pst l f t).length
  · obtain ⟨e, he, hx⟩ := pst_mem (anth_mem hi)
    have ok := enE_ok ((jrE_ok h).2.1 e he)
    have h1 := (of_decide_eq_true (List.all_eq_true.1 ok.2.2.2.1 _ hx) : NameP _).2.1
    have h2 := List.all_eq_true.1 ok.2.2.2.2.1 _ hx
    unfold asB someB at h2
    simp at h2
    exact ⟨by unfold maxLen; omega, h2.2⟩
  · have e : anth (pst l f t) i = ⟨⟨#[]⟩, 0⟩ := by unfold anth; rw [List.getD_eq_getElem?_getD, List.getElem?_eq_none (by omega)]; rfl
    rw [e]
    exact ⟨by decide +kernel, by decide⟩
theorem pst_bound {l : List En} (h : jrE l = 0) (f t : Int) : (pst l f t).length ≤ 2000 := by
  have key : ∀ m : List En, (∀ r ∈ m, r.ps.length ≤ 20) → (pst m f t).length ≤ 20 * m.length := by
    intro m
    induction m with
    | nil => intro _; simp [pst]
    | cons r m ih =>
      intro hm
      have h1 := ih fun x hx => hm x (by simp [hx])
      have h2 := hm r (by simp)
      unfold pst at *
      rw [List.filter_cons]
      split
      · rw [List.flatMap_cons, List.length_append, List.length_cons]; omega
      · rw [List.length_cons]; omega
  have h1 := key l fun r hr => (enE_ok ((jrE_ok h).2.1 r hr)).2.2.1
  have h2 := (jrE_ok h).1
  omega
theorem map_range_anth (P : List Am) : (List.range P.length).map (anth P) = P := by
  apply List.ext_getElem
  · simp
  · intro i h1 h2
    simp [anth, List.getD_eq_getElem?_getD, h2]
set_option maxRecDepth 100000 in
set_option maxHeartbeats 4000000 in
theorem balances_in (F : Fence) (n : Nat) (h1 : F.fn 35) (h2 : F.fn 34) (h3 : F.fn 48) (hro : F.round = none) (hn : 3 ≤ n) (a : Option Addr) (len cap : Nat) (l : List En) (hlen : l.length = len) (day : Int) (w : World) (hc : CameE w a l) (h0 : jrE l = 0) :
    CallsIn F n Try.prog 35 #[.slice a len cap, .int .i64 day] w fun e W' => e = .returned (.map (some w.heap.size)) ∧ SumS W' w.heap.size (pst l 0 day).length (sumsS (pst l 0 day)) ∧ Go.RowKit.Below w.heap.size w W' := by
  have hn1 : 1 ≤ n := by omega
  have hmm := @run_makeMap Try.prog
  have hl100 : len ≤ 100 := by rw [← hlen]; exact (jrE_ok h0).1
  have h20 : ∀ k, k < len → (enth l k).ps.length ≤ 20 := fun k hk => (enE_ok ((jrE_ok h0).2.1 _ (enth_mem (by omega)))).2.2.1
  have HPA := Lib.hid (pst_all h0 0 day)
  have HPB := Lib.hid (pst_bound h0 0 day)
  refine callsIn_of_wp_marks Try.func35 rfl h1 ?_ hro
  simp only [Try.ntmps35, List.size_toArray, List.length_cons, List.length_nil, Nat.reduceAdd, Nat.reduceSub, Array.replicate_succ, Array.replicate_zero, List.push_toArray, List.append_toArray, List.nil_append, List.cons_append]
  gi_wp2_with (gi_at_call 34; refine (postings_in F (n - 1) h2 hro _ _ _ _ _ _).mono ?_; rintro e w' ⟨rfl, rfl⟩)
  have bM := Boxed.new (w.alloc (.map #[] 0)) 67 (.map (some w.heap.size))
  have bM1 := ((bM.alloc (.cells #[.slice a len cap] 22)).alloc (.cells #[.int .i64 0] 3)).alloc (.cells #[.int .i64 day] 3)
  have b0 := ((Boxed.new ((w.alloc (.map #[] 0)).alloc (.cells #[.map (some w.heap.size)] 67)) 22 (.slice a len cap)).alloc (.cells #[.int .i64 0] 3)).alloc (.cells #[.int .i64 day] 3)
  have b1 := (Boxed.new (((w.alloc (.map #[] 0)).alloc (.cells #[.map (some w.heap.size)] 67)).alloc (.cells #[.slice a len cap] 22)) 3 (.int .i64 0)).alloc (.cells #[.int .i64 day] 3)
  have b2 := Boxed.new ((((w.alloc (.map #[] 0)).alloc (.cells #[.map (some w.heap.size)] 67)).alloc (.cells #[.slice a len cap] 22)).alloc (.cells #[.int .i64 0] 3)) 3 (.int .i64 day)
  simp only [World.size_alloc] at bM1 b0 b1 b2
  have hS0 : SumS (((((w.alloc (.map #[] 0)).alloc (.cells #[.map (some w.heap.size)] 67)).alloc (.cells #[.slice a len cap] 22)).alloc (.cells #[.int .i64 0] 3)).alloc (.cells #[.int .i64 day] 3)) w.heap.size 0 (fun _ => none) :=
    ((((SumS.made w).below (kbelow_box _ _)).below (kbelow_box _ _)).below (kbelow_box _ _)).below (kbelow_box _ _)
  have hB0 : Go.RowKit.Below w.heap.size w (((((w.alloc (.map #[] 0)).alloc (.cells #[.map (some w.heap.size)] 67)).alloc (.cells #[.slice a len cap] 22)).alloc (.cells #[.int .i64 0] 3)).alloc (.cells #[.int .i64 day] 3)) := (((((Below.refl _ w).alloc (Nat.le_refl _) _).alloc (by simp) _).alloc (by simp; omega) _).alloc (by simp; omega) _).alloc (by simp; omega) _
  have hsz : (((((w.alloc (.map #[] 0)).alloc (.cells #[.map (some w.heap.size)] 67)).alloc (.cells #[.slice a len cap] 22)).alloc (.cells #[.int .i64 0] 3)).alloc (.cells #[.int .i64 day] 3)).heap.size = w.heap.size + 5 := by simp
  obtain ⟨W0, hW0⟩ : ∃ W0, ((((w.alloc (.map #[] 0)).alloc (.cells #[.map (some w.heap.size)] 67)).alloc (.cells #[.slice a len cap] 22)).alloc (.cells #[.int .i64 0] 3)).alloc (.cells #[.int .i64 day] 3) = W0 := ⟨_, rfl⟩
  rw [hW0] at bM1 b0 b1 b2 hS0 hB0 hsz ⊢
  clear hW0 bM
  refine wpIn_rangeFunc_ownH hro hn1 (gf := 48) (lb := #[.pointer (some ⟨w.heap.size + 1 + 1, 0, none⟩), .pointer (some ⟨w.heap.size + 1 + 1 + 1, 0, none⟩), .pointer (some ⟨w.heap.size + 1 + 1 + 1 + 1, 0, none⟩)]) rfl h3 (enters_of Try.func48 (by kernel_rfl) rfl)
    (postings_stops F (n - 1) h3 hro (by omega) (w.heap.size + 1 + 1) (fun k => k = w.heap.size) w W0 (fun k e => by omega) (by omega) (by omega) hB0 a len cap l hlen hl100 0 day hc h20 b0.cell b1.cell b2.cell) (fun h k => h.trans k) (keepB_b (Nat.le_refl _)) (Below.refl _ _) (fun _ => rfl)
    (fun pre W => (Boxed W (w.heap.size + 1) 67 (.map (some w.heap.size)) ∧ SumS W w.heap.size pre.length (sumsS (pre.map (anth (pst l 0 day))))) ∧ (Go.RowKit.Below w.heap.size w W ∧ W0.heap.size ≤ W.heap.size))
    (fun _ _ _ => False)
    (OwnFrom.and (OwnFrom.and (Own.from (boxed_own _ _ _) _) (fun s A B row hs hg hr => hs.own hg (fun e => by have := (hr _ e).1; omega))) (OwnFrom.and (ownFrom_below (Nat.le_refl _) (by omega)) (fun s A B row hs hg hr => Nat.le_trans hs hg.size)))
    (fun _ _ _ _ _ hs _ _ => hs)
    ⟨⟨bM1, hS0⟩, hB0, Nat.le_refl _⟩
    (fun x a' W => ∃ Bx, W0.heap.size ≤ Bx ∧ PBox W Bx (anth (pst l 0 day) x) ∧ a' = { tmps := #[.slice a len cap, .int .i64 day, undef, undef, .map none, .pointer (some ⟨w.heap.size + 1, 0, none⟩), .pointer (some ⟨Bx, 0, none⟩), .map (some w.heap.size), .slice a len cap, .int .i64 day, .func (.func 48) #[] #[.pointer (some ⟨w.heap.size + 1 + 1, 0, none⟩), .pointer (some ⟨w.heap.size + 1 + 1 + 1, 0, none⟩), .pointer (some ⟨w.heap.size + 1 + 1 + 1 + 1, 0, none⟩)], .agg #[.string (anth (pst l 0 day) x).name, .int .i64 (anth (pst l 0 day) x).mon], undef, undef, undef, undef, undef, undef, undef, undef], defers := [] })
    (fun x a' _ X Y row hs hg hr => by obtain ⟨Bx, q1, q2, q3⟩ := hs; exact ⟨Bx, q1, PBox.own Bx _ () X Y row q2 hg (fun r e => (hr r e).2), q3⟩)
    ?assign ?body ?done ?stop
  case assign =>
    rintro lq pre x W K ⟨⟨bM2, hsm⟩, hB1, hsW⟩ hK
    unfold pv
    gi_wp2
    exact hK _ _ ((KeepsOthers.alloc _ _).from _) ((KeepB.refl _ _ W).alloc hsW _) ⟨⟨bM2.alloc _, hsm.below (kbelow_box _ _)⟩, hB1.alloc hB1.size _, Nat.le_trans hsW (by simp)⟩ ⟨W.heap.size, hsW, World.alloc_heap_new W _, rfl⟩
  case body =>
    rintro lq pre x a' W hlq ⟨r, hr⟩ ⟨⟨bM2, hsm⟩, hB1, hsW⟩ ⟨Bx, hBx, hbx, rfl⟩ hlt
    obtain ⟨y0, y1⟩ := hbx.cells
    obtain ⟨hfit, hmo⟩ := HPA.out x
    have hcm := bM2.cell
    have hmo' := of_decide_eq_true hmo
    have HBD := Lib.hid (sumN_bd (s := (anth (pst l 0 day) x).name) (l := pre.map (anth (pst l 0 day))) (fun r hr => by obtain ⟨i, _, rfl⟩ := List.mem_map.1 hr; exact (HPA.out i).2))
    rw [← sumsS_getD, List.length_map] at HBD
    have HSN := Lib.hid (sumsS_snoc (pre.map (anth (pst l 0 day))) (anth (pst l 0 day) x))
    have HSE : Hid (stepS (sumsS (pre.map (anth (pst l 0 day)))) (anth (pst l 0 day) x) = putS (sumsS (pre.map (anth (pst l 0 day)))) (anth (pst l 0 day) x).name ((sumsS (pre.map (anth (pst l 0 day))) (anth (pst l 0 day) x).name).getD 0 + (anth (pst l 0 day) x).mon)) := rfl
    have hlook := hsm.look _ hfit
    obtain ⟨cs, hcs⟩ : ∃ c, (sumsS (pre.map (anth (pst l 0 day))) (anth (pst l 0 day) x).name).getD 0 = c := ⟨_, rfl⟩
    rw [hcs] at HBD HSE hlook
    have hkey := key_of hfit
    have hN := HPB.out
    have hsmall : -9000000000000000 ≤ cs + (anth (pst l 0 day) x).mon ∧ cs + (anth (pst l 0 day) x).mon ≤ 9000000000000000 := by
      have h1 := HBD.out
      omega
    have hwrap : IntKind.i64.wrap (cs + (anth (pst l 0 day) x).mon) = cs + (anth (pst l 0 day) x).mon := IntWalk.i64_in _ (by omega)
    obtain ⟨D, hown, hD⟩ := hsm
    have hroom : pre.length < maxLen := by unfold maxLen; omega
    clear hbx hcs
    gi_wp2_with (first
      | (gi_at_mapUpdate; refine wpListIn_mapUpdate_own _ rfl _ _ _ 67 rfl 9 3 strLaw Try.underlying67 (plainElem (H := Unit) Try.prog 3) w.heap.size pre.length _ rfl hown hroom _ _ _ rfl rfl hkey (.lit (.int .i64 (cs + (anth (pst l 0 day) x).mon))) [] (plainElem_int Try.underlying3 (WalkArith.wf_i64 (by omega))) ?_; intro w2 hown2 hgrow2))
    refine ⟨KeepsFrom.of_grownBy hgrow2 (fun j e => by cases e; omega), (KeepB.refl _ _ W).grown hgrow2 hsW (fun r e => by cases e; exact .inl rfl), ⟨bM2.kept hgrow2 (fun e => by injection e; omega), ?_⟩, hB1.grown hgrow2 hB1.size (fun k e => by cases e; exact Nat.le_refl _), Nat.le_trans hsW hgrow2.size⟩
    rw [List.length_append, List.map_append, List.map_cons, List.map_nil, HSN.out, HSE.out]
    exact ⟨_, hown2, sum_put hown.isMap hD⟩
  case done =>
    rintro D ys W hD rfl ⟨⟨bM2, hsm⟩, hB1, hsW⟩ hK
    have hcm := bM2.cell
    gi_wp2
    refine ⟨by simp, .inl ⟨_, _, rfl, run_takeDeferred hK, ?_⟩⟩
    rw [map_range_anth, List.length_range] at hsm
    exact ⟨_, results_tmp rfl _ _ _, rfl, hsm.own (grownBy_putObj' _ D _) (fun e => by injection e; omega), hB1.trans (belowK_b (w := w) (Nat.le_refl _) W D _ _ (by omega) hK rfl rfl)⟩
  case stop =>
    rintro D c pre W _ _ h _
    exact h.elim
end Go.Proofs.Ytdgcfakbmhchdaa
