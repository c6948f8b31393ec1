/-
  Promise Q3: postings of a journal from a day to another one, one by one: the function that is ranged over.
-/
import Derived.Test.YtdgcfakbmhchdaaQCheck
import Derived.RangeFuncNested
import Derived.RangeFuncBound
import Derived.RangeFuncCalls
import Derived.RangeFuncLeaves
import Derived.Shelf.Abstract
import Derived.Shelf.RegionOpen
import Derived.WalkKit
import Derived.OwnWalkIn
import Derived.TacticsInMore
import Derived.LoopNIn
import Derived.LoopIn
namespace Go.Proofs.Ytdgcfakbmhchdaa
open Go.RowKit Go.Shelf

attribute [local go_sem] Oper.semAt_some

/-- Is an entry's day from f to t? -/
def dayIn (f t : Int) (e : En) : Bool := decide (f ≤ e.day) && decide (e.day ≤ t)
/-- All postings from a day to another one. -/
def pst (l : List En) (f t : Int) : List Am := (l.filter (dayIn f t)).flatMap En.ps
theorem etake_snoc {l : List En} {k : Nat} (h : k < l.length) : l.take (k + 1) = l.take k ++ [enth l k] := by
  rw [List.take_add_one, List.getElem?_eq_getElem h]
  simp [enth, List.getD_eq_getElem?_getD, h]
theorem pst_step {l : List En} {f t : Int} {k : Nat} (h : k < l.length) : pst (l.take (k + 1)) f t = pst (l.take k) f t ++ (if dayIn f t (enth l k) = true then (enth l k).ps else []) := by
  unfold pst
  rw [etake_snoc h, List.filter_append, List.flatMap_append]
  congr 1
  by_cases e : dayIn f t (enth l k) = true
  · rw [if_pos e]; simp [e]
  · rw [if_neg e]; simp [e]
theorem pst_split (l : List En) (f t : Int) (k : Nat) : ∃ r, pst l f t = pst (l.take k) f t ++ r := by
  refine ⟨pst (l.drop k) f t, ?_⟩
  unfold pst
  rw [← List.flatMap_append, ← List.filter_append, List.take_append_drop]
/-- The posting that comes next. -/
theorem pst_at {l : List En} {f t : Int} {k j : Nat} (hk : k < l.length) (hd : dayIn f t (enth l k) = true) (hj : j < (enth l k).ps.length) : anth (pst l f t) ((pst (l.take k) f t).length + j) = anth (enth l k).ps j := by
  obtain ⟨r, hr⟩ := pst_split l f t (k + 1)
  rw [hr, pst_step hk, if_pos hd, List.append_assoc]
  unfold anth
  rw [List.getD_eq_getElem?_getD, List.getD_eq_getElem?_getD, List.getElem?_append_right (by omega), Nat.add_sub_cancel_left, List.getElem?_append_left hj]
theorem pst_len {l : List En} {f t : Int} {k : Nat} (hk : k < l.length) (hd : dayIn f t (enth l k) = true) : (pst (l.take k) f t).length + (enth l k).ps.length ≤ (pst l f t).length := by
  obtain ⟨r, hr⟩ := pst_split l f t (k + 1)
  have := congrArg List.length hr
  rw [pst_step hk, if_pos hd, List.length_append, List.length_append] at this
  omega
/-- Below N all is kept but what X names. -/
def KeepB (N : Nat) (X : Nat → Prop) (w w' : World) : Prop := w'.os = w.os ∧ w'.tape = w.tape ∧ w'.output = w.output ∧ w.heap.size ≤ w'.heap.size ∧ ∀ k, k < N → ¬ X k → w'.heap[k]? = w.heap[k]?
theorem KeepB.refl (N : Nat) (X : Nat → Prop) (w : World) : KeepB N X w w := ⟨rfl, rfl, rfl, Nat.le_refl _, fun _ _ _ => rfl⟩
theorem KeepB.trans {N : Nat} {X : Nat → Prop} {a b c : World} (h : KeepB N X a b) (k : KeepB N X b c) : KeepB N X a c := ⟨k.1.trans h.1, k.2.1.trans h.2.1, k.2.2.1.trans h.2.2.1, Nat.le_trans h.2.2.2.1 k.2.2.2.1, fun i h1 h2 => (k.2.2.2.2 i h1 h2).trans (h.2.2.2.2 i h1 h2)⟩
theorem KeepB.alloc {N : Nat} {X : Nat → Prop} {a b : World} (h : KeepB N X a b) (hN : N ≤ b.heap.size) (o : Obj) : KeepB N X a (b.alloc o) :=
  h.trans ⟨rfl, rfl, rfl, by simp, fun i h1 _ => Below.heap_alloc b o i (by omega)⟩
theorem KeepB.grown {N : Nat} {X : Nat → Prop} {a b c : World} {row : Option Nat} (h : KeepB N X a b) (hg : b.grownBy c row) (hN : N ≤ b.heap.size) (hr : ∀ r, row = some r → X r ∨ N ≤ r) : KeepB N X a c :=
  h.trans ⟨hg.os, hg.tape, hg.output, hg.size, fun i h1 h2 => hg.block i (by omega) (fun e => by rcases hr i e.symm with h3 | h3; exact h2 h3; omega)⟩
theorem KeepB.cell {N : Nat} {X : Nat → Prop} {a b : World} (h : KeepB N X a b) {p : Addr} (h1 : p.block < N) (h2 : ¬ X p.block) : b.cell? p = a.cell? p := World.cell?_of_block (h.2.2.2.2 p.block h1 h2)
theorem KeepB.below {N n0 : Nat} {X : Nat → Prop} {a b : World} (h : KeepB N X a b) (hn : n0 ≤ N) (hX : ∀ k, X k → n0 ≤ k) : Go.RowKit.Below n0 a b := ⟨h.1, h.2.1, h.2.2.1, h.2.2.2.1, fun i hi => h.2.2.2.2 i (by omega) (fun e => by have := hX i e; omega)⟩
/-- A posting as it is handed over. -/
def pv (P : List Am) (i : Nat) : Array Value := #[.agg #[.string (anth P i).name, .int .i64 (anth P i).mon]]
set_option maxRecDepth 100000 in
set_option maxHeartbeats 4000000 in
theorem postings1_in (F : Fence) (n : Nat) (hfn : F.fn 48) (hro : F.round = none) (hn : 1 ≤ n) (lp Bj n0 N : Nat) (X : Nat → Prop) (hX : ∀ k, X k → n0 ≤ k) (hnN : n0 ≤ N) (hB1 : Bj + 2 < N) (hB2 : ¬ X Bj ∧ ¬ X (Bj + 1) ∧ ¬ X (Bj + 2))
    (a : Option Addr) (len cap : Nat) (l : List En) (hlen : l.length = len) (hl : len ≤ 100) (f t : Int) (J Jx : List Nat → World → Prop)
    (hY : ∀ pre x W1, J pre W1 → pre.length < (pst l f t).length → YieldAt F (n - 1) Try.prog lp (pv (pst l f t) x) W1 fun e W' =>
      (e = .returned (.bool true) ∧ J (pre ++ [x]) W' ∧ KeepB N X W1 W') ∨ (e = .returned (.bool false) ∧ Jx (pre ++ [x]) W'))
    (W : World) (hNW : N ≤ W.heap.size) (hJ : AbidesFrom W.heap.size J) (c0 : W.cell? ⟨Bj, 0, none⟩ = some (.slice a len cap)) (c1 : W.cell? ⟨Bj + 1, 0, none⟩ = some (.int .i64 f)) (c2 : W.cell? ⟨Bj + 2, 0, none⟩ = some (.int .i64 t))
    (hO : 0 < len → ∃ b off, a = some ⟨b, off, none⟩ ∧ ∀ k, k < len → ∃ (ax : Option Addr) (cx : Nat), ∀ w', Go.RowKit.Below n0 W w' → w'.cell? ⟨b, off + k * 2, none⟩ = some (.int .i64 (enth l k).day) ∧ w'.cell? ⟨b, off + k * 2 + 1, none⟩ = some (.slice ax (enth l k).ps.length cx) ∧ PsAt w' ax (enth l k).ps) (h20 : ∀ k, k < len → (enth l k).ps.length ≤ 20) (h0 : J [] W) :
    CallsIn F n Try.prog 48 #[.func (.yield lp) #[] #[], .pointer (some ⟨Bj, 0, none⟩), .pointer (some ⟨Bj + 1, 0, none⟩), .pointer (some ⟨Bj + 2, 0, none⟩)] W fun e W' => (∃ v, e = .returned v) ∧
      ((∃ ys, ys = List.range (pst l f t).length ∧ J ys W') ∨ (∃ pre, True ∧ Jx pre W')) := by
  have HO := Lib.hid hO
  have HY := Lib.hid hY
  have HJ := Lib.hid hJ
  have HX := Lib.hid hX
  have HB2 := Lib.hid hB2
  have H20 := Lib.hid h20
  have HLEN := Lib.hid hlen
  have HNW := Lib.hid hNW
  have HC1 := Lib.hid c1
  have HC2 := Lib.hid c2
  have HJA : Hid (∀ s W1 o, J s W1 → J s (W1.alloc o)) := Lib.hid (fun s W1 o h => hJ s W1 _ none h (World.grownBy_alloc W1 o none) (fun r e => by cases e))
  clear hO hY hJ hX hB2 h20 hlen hNW
  refine callsIn_of_wp Try.func48 rfl hfn ?_ hro
  simp only [Try.ntmps48, List.size_toArray, List.length_cons, List.length_nil, Nat.reduceAdd, Nat.reduceSub, Array.replicate_succ, Array.replicate_zero, List.push_toArray, List.append_toArray, List.nil_append, List.cons_append]
  gi_wp2
  gi_loopw [11] (fun i wr => ∃ k : Nat, k ≤ len ∧ i = .int .i64 k ∧ J (List.range (pst (l.take k) f t).length) wr ∧ KeepB N X W wr)
    (fun i _ => len - (intOf i).toNat)
  case atStart => exact ⟨0, Nat.zero_le _, rfl, h0, KeepB.refl _ _ _⟩
  case round =>
    obtain ⟨k, hk, rfl, hJs, hkp⟩ := hrel
    have HJS := Lib.hid hJs
    have HK := Lib.hid hkp
    clear hJs hkp
    by_cases hlt : k < len
    · have hlt' : (k : Int) < (len : Int) := by omega
      obtain ⟨b, off, rfl, hcell⟩ := HO.out (by omega)
      obtain ⟨ax, cx, hax⟩ := hcell k hlt
      obtain ⟨x0, x1, -⟩ := hax wr (HK.out.below hnN HX.out)
      have HAX := Lib.hid (fun w' hw' => (hax w' hw').2.2)
      have d1 := (HK.out.cell (p := ⟨Bj + 1, 0, none⟩) (show Bj + 1 < N by omega) HB2.out.2.1).trans HC1.out
      have d2 := (HK.out.cell (p := ⟨Bj + 2, 0, none⟩) (show Bj + 2 < N by omega) HB2.out.2.2).trans HC2.out
      have hsz : N ≤ wr.heap.size := Nat.le_trans HNW.out HK.out.2.2.2.1
      have HSZ := Lib.hid hsz
      have HKL : Hid (k < l.length) := Lib.hid (by rw [HLEN.out]; exact hlt)
      have HST := Lib.hid (pst_step (f := f) (t := t) HKL.out)
      have HDI : Hid (dayIn f t (enth l k) = (decide (f ≤ (enth l k).day) && decide ((enth l k).day ≤ t))) := rfl
      have HBX := Lib.hid (HK.out.alloc hsz (.cells #[.int .i64 (enth l k).day, .slice ax (enth l k).ps.length cx] 29))
      have HJB := Lib.hid (HJA.out _ _ (.cells #[.int .i64 (enth l k).day, .slice ax (enth l k).ps.length cx] 29) HJS.out)
      have e1 : (wr.alloc (.cells #[.int .i64 (enth l k).day, .slice ax (enth l k).ps.length cx] 29)).cell? ⟨Bj + 1, 0, none⟩ = some (.int .i64 f) := ((kbelow_box wr _).cell (p := ⟨Bj + 1, 0, none⟩) (oblt_of_cell d1)).trans d1
      have e2 : (wr.alloc (.cells #[.int .i64 (enth l k).day, .slice ax (enth l k).ps.length cx] 29)).cell? ⟨Bj + 2, 0, none⟩ = some (.int .i64 t) := ((kbelow_box wr _).cell (p := ⟨Bj + 2, 0, none⟩) (oblt_of_cell d2)).trans d2
      clear hcell hax d1 d2
      by_cases hdf : (enth l k).day < f
      · have hdf' : ¬ (f ≤ (enth l k).day) := by omega
        have HN1 : Hid (pst (l.take (k + 1)) f t = pst (l.take k) f t) := by
          unfold Hid
          rw [HST.out, HDI.out, decide_eq_false hdf']
          simp
        clear hdf'
        gi_wp2
        go_roundw
        case rel => exact ⟨k + 1, by omega, by go_num, by rw [HN1.out]; exact HJB.out, HBX.out⟩
        case measure => simp [intOf]; omega
      · have hdf' : decide ((enth l k).day < f) = false := decide_eq_false hdf
        by_cases hdt : t < (enth l k).day
        · have HN1 : Hid (pst (l.take (k + 1)) f t = pst (l.take k) f t) := by
            unfold Hid
            rw [HST.out, HDI.out, decide_eq_false (show ¬ ((enth l k).day ≤ t) by omega)]
            simp
          gi_wp2
          go_roundw
          case rel => exact ⟨k + 1, by omega, by go_num, by rw [HN1.out]; exact HJB.out, HBX.out⟩
          case measure => simp [intOf]; omega
        · have hdt' : decide (t < (enth l k).day) = false := decide_eq_false hdt
          have hdi : dayIn f t (enth l k) = true := by rw [HDI.out, decide_eq_true (show f ≤ (enth l k).day by omega), decide_eq_true (show (enth l k).day ≤ t by omega)]; rfl
          have HN1 : Hid (pst (l.take (k + 1)) f t = pst (l.take k) f t ++ (enth l k).ps) := by
            unfold Hid
            rw [HST.out, hdi]
            simp
          have HPA : Hid (∀ j, j < (enth l k).ps.length → anth (pst l f t) ((pst (l.take k) f t).length + j) = anth (enth l k).ps j) := Lib.hid (fun j hj => pst_at HKL.out hdi hj)
          have HPL := Lib.hid (pst_len (f := f) (t := t) HKL.out hdi)
          clear hdi
          obtain ⟨p0, hp0⟩ : ∃ p0, (pst (l.take k) f t).length = p0 := ⟨_, rfl⟩
          have HP1 : Hid ((pst (l.take (k + 1)) f t).length = p0 + (enth l k).ps.length) := Lib.hid (by rw [HN1.out, List.length_append, hp0])
          rw [hp0] at HJB HPA HPL
          have HM20 := Lib.hid (H20.out k hlt)
          clear hp0 HN1 HST HDI
          obtain ⟨ps, hps⟩ : ∃ ps, (enth l k).ps = ps := ⟨_, rfl⟩
          rw [hps] at x1 HAX HPA HPL HP1 HBX HJB HM20 e1 e2
          obtain ⟨m, hm⟩ : ∃ m, ps.length = m := ⟨_, rfl⟩
          have HM := Lib.hid hm
          rw [hm] at x1 HPA HPL HP1 HBX HJB HM20 e1 e2
          have hm20 := HM20.out
          clear hps hm
          gi_wp2
          generalize wr.alloc (.cells #[.int .i64 (enth l k).day, .slice ax m cx] 29) = wb at *
          generalize wr.heap.size = sb at *
          generalize wr = wo at *
          gi_loopw [28] (fun i wr => ∃ j : Nat, j ≤ m ∧ i = .int .i64 j ∧ J (List.range (p0 + j)) wr ∧ KeepB N X W wr)
            (fun i _ => m - (intOf i).toNat)
          case atStart => exact ⟨0, Nat.zero_le _, rfl, HJB.out, HBX.out⟩
          case round =>
            clear HJB HBX HJS HK
            obtain ⟨j, hj, rfl, hJs, hkp⟩ := hrel
            have HJS := Lib.hid hJs
            have HK := Lib.hid hkp
            clear hJs hkp
            by_cases hjm : j < m
            · have hjm' : (j : Int) < (m : Int) := by omega
              have hsz2 : N ≤ wr.heap.size := Nat.le_trans HNW.out HK.out.2.2.2.1
              obtain ⟨b2, o2, rfl, hc2⟩ := (HAX.out wr (HK.out.below hnN HX.out)).1.open HM.out (by omega)
              obtain ⟨y0, y1⟩ := hc2 wr (Below.refl _ _) j hjm
              have HJ2 := Lib.hid (HJA.out _ _ (.cells #[.string (anth ps j).name, .int .i64 (anth ps j).mon] 60) HJS.out)
              have HK2 := Lib.hid (HK.out.alloc hsz2 (.cells #[.string (anth ps j).name, .int .i64 (anth ps j).mon] 60))
              obtain ⟨fn, tmps, assign, body, hy, hR⟩ := HY.out _ (p0 + j) _ HJ2.out (by rw [List.length_range]; have := HPL.out; omega)
              unfold pv at hy
              rw [HPA.out j hjm] at hy
              clear hc2
              gi_wp2
              refine hR.mono ?_
              rintro e W3 (⟨rfl, hJ3, hk3⟩ | ⟨rfl, hJx3⟩)
              · rw [← List.range_succ] at hJ3
                have HJ3 := Lib.hid hJ3
                have HK3 := Lib.hid (HK2.out.trans hk3)
                clear hJ3 hk3 hR
                gi_wp2
                go_roundw
                case rel => exact ⟨j + 1, by omega, by go_num, HJ3.out, HK3.out⟩
                case measure => simp [intOf]; omega
              · gi_wp2
                refine bodyPost_ret (results_none rfl _ _ _) rfl ?_
                exact ⟨⟨_, rfl⟩, .inr ⟨_, trivial, hJx3⟩⟩
            · have hjn : j = m := by omega
              subst hjn
              rw [← HP1.out] at HJS
              gi_wp2
              go_roundw
              case rel => exact ⟨k + 1, by omega, by go_num, HJS.out, HK.out⟩
              case measure => simp [intOf]; omega
    · have hkn : k = len := by omega
      subst hkn
      have HTK : Hid (l.take k = l) := Lib.hid (by rw [← HLEN.out, List.take_length])
      rw [HTK.out] at HJS
      gi_wp2
      go_end0
      exact ⟨⟨_, rfl⟩, .inl ⟨_, rfl, HJS.out⟩⟩
end Go.Proofs.Ytdgcfakbmhchdaa
