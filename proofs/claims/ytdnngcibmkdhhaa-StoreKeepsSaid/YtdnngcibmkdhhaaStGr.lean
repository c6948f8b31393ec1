/-
  Promise S1: new disks: the walks of NewDisk and After.
-/
import Derived.Test.YtdnngcibmkdhhaaStHd
import Derived.Maps.AppendAt
import Derived.Deep.RegionLaw
import Derived.Laws.MakeOwn
set_option linter.unusedSimpArgs false
namespace Go.Proofs.Ytdnngcibmkdhhaa
open Go.RowKit

theorem str_info : (Try.prog.info? 9).map (fun i => (i.zero, i.size, i.bytes)) = some (some (.string ⟨#[]⟩), 1, 16) := by kernel_rfl
theorem byte_info : (Try.prog.info? 5).map (fun i => (i.zero, i.size, i.bytes)) = some (some (.int .u8 0), 1, 1) := by kernel_rfl
/-- The slice v, nil or of the call's own from block B on, holds the texts l. -/
def GrowS (w : World) (B : Nat) (v : Value) (l : List ByteArray) : Prop := w.ownsRow B 9 1 v l.length (l.map Value.string)
theorem GrowS.alloc {w : World} {B : Nat} {v : Value} {l : List ByteArray} (h : GrowS w B v l) (o : Obj) : GrowS (w.alloc o) B v l := World.ownsRow.alloc h o
theorem GrowS.lt {w : World} {B : Nat} {v : Value} {l : List ByteArray} (h : GrowS w B v l) : ∀ k, v.ownBlock = some k → B ≤ k ∧ k < w.heap.size := World.ownsRow.lt h
theorem GrowS.put {w : World} {B : Nat} {v : Value} {l : List ByteArray} {p : Addr} (h : GrowS w B v l) (hp : p.block < B) (u : Value) : GrowS (w.setCell p u) B v l := by
  refine World.ownsRow.kept (row := some p.block) h ⟨rfl, rfl, rfl, by simp, fun k _ hk => Below.heap_setCell w p u k (fun e => hk (by rw [e]))⟩ ?_
  cases hv : v.ownBlock with
  | none => exact .inl rfl
  | some k =>
    refine .inr fun e => ?_
    injection e with e
    have := (h.lt k hv).1
    omega
theorem GrowS.row {w : World} {B : Nat} {v : Value} {l : List ByteArray} (h : GrowS w B v l) (h0 : 0 < l.length) : ∃ g c, v = .slice (some ⟨g, 0, none⟩) l.length c ∧ B ≤ g ∧ g < w.heap.size ∧ ∀ j, j < l.length → w.cell? ⟨g, j, none⟩ = some (.string (dnth l j)) ∧ w.frozen? ⟨g, j, none⟩ = false := by
  have hh := h
  rcases h.2 with ⟨_, h2⟩ | ⟨g, c, cur, rfl, hg, _⟩
  · omega
  · refine ⟨g, c, rfl, hg, (hh.lt g rfl).2, fun j hj => ⟨?_, World.ownsRow.frozenAt hh j⟩⟩
    have := World.ownsRow.cellAt hh j (by omega)
    rw [this]
    simp [dnth, List.getD_eq_getElem?_getD, hj]
theorem GrowS.form {w : World} {B : Nat} {v : Value} {l : List ByteArray} (h : GrowS w B v l) : ∃ x c, v = .slice x l.length c ∧ (∀ a, x = some a → B ≤ a.block) ∧ (0 < l.length → ∃ g, x = some ⟨g, 0, none⟩ ∧ B ≤ g ∧ g < w.heap.size ∧ ∀ j, j < l.length → w.cell? ⟨g, j, none⟩ = some (.string (dnth l j)) ∧ w.frozen? ⟨g, j, none⟩ = false) := by
  have hh := h
  rcases h.2 with ⟨h1, h2⟩ | ⟨g, c, cur, rfl, hg, _⟩
  · exact ⟨none, 0, by rw [h1, h2], fun a e => (by cases e), fun h0 => by omega⟩
  · refine ⟨_, c, rfl, fun a e => (by injection e with e; subst e; exact hg), fun h0 => ?_⟩
    obtain ⟨g', c', e, h1, h2, h3⟩ := hh.row h0
    injection e with e
    exact ⟨g', e, h1, h2, h3⟩
theorem run_app_s (w : World) (ty : TypeId) (B : Nat) (v : Value) (l : List ByteArray) (hown : GrowS w B v l) (b off m c : Nat) (news : List ByteArray) (hm : news.length = m) (h0 : ∀ j, j < m → w.cell? ⟨b, off + j, none⟩ = some (.string (dnth news j))) (hb : (l.length + m) * 16 ≤ 140737488355328) (hB : B ≤ w.heap.size) :
    ∃ v' w', (Builtin.append_ #[38, 38] ty #[v, .slice (some ⟨b, off, none⟩) m c]).run Try.prog w = .ok v' w' ∧ GrowS w' B v' (l ++ news) ∧ w.grownBy w' v.ownBlock := by
  obtain ⟨i0, hi, hz0, hz1, hz2⟩ := info_parts str_info
  have hnews : ∀ j u, (news.map Value.string)[j]? = some u → w.cell? ((⟨b, off, none⟩ : Addr).add j) = some u := by
    intro j u hu
    have hj : j < m := by
      have := (List.getElem?_eq_some_iff.1 hu).1
      simpa [hm] using this
    rw [Addr.add_lit, h0 j hj, ← hu]
    simp [dnth, List.getD_eq_getElem?_getD, show j < news.length by omega]
  obtain ⟨v', w', hr, h2, h3, _, _⟩ := run_append_own_at (P := Try.prog) w B 38 ty 9 i0 _ 1 16 Try.underlying38 hi hz0 hz1 hz2 rfl (by decide) v l.length (l.map Value.string) hown ⟨b, off, none⟩ m c (news.map Value.string) (by simp [hm]) hnews (by simp [Value.oneCell']) (by unfold maxLen; omega) hb hB
  refine ⟨v', w', hr, ?_, h3⟩
  unfold GrowS
  rw [List.length_append, hm, List.map_append]
  exact h2
theorem step_run {ops : Array Oper} {o : Oper} {a : Act} {K : Act → World → Prop} {Q : Exit → Act → World → Prop} {E : Prop} (w : World) (hgd : o.guard = none) (s x : Operand) (t : TypeId)
    (ho : o.op = .call { callee := .builtin .append, args := #[s, x], argTypes := #[t, t] }) {v u v9 : Value} {w9 : World} (hs : a.eval s = v) (hx : a.eval x = u)
    (hrun : (Builtin.append_ #[t, t] o.type #[v, u]).run Try.prog w = .ok v9 w9) (h : K (a.put o.dst v9) w9) :
    if Region.wanted o (yielded ops a.tmps) = true then Oper.wp Try.prog o a w K Q else E := by
  have hw : Region.wanted o (yielded ops a.tmps) = true := by simp [Region.wanted, hgd]
  rw [if_pos hw]
  unfold Oper.wp execOp
  simp only [ho, resolve, invoke, builtin, Sem.run_bind, Sem.run_pure, Result.andThen_ok, List.map_toArray, List.map_cons, List.map_nil, hs, hx, hrun]
  exact h
def zero64 : ByteArray := ⟨(List.replicate 64 0).toArray⟩
theorem zero64_size : zero64.size = 64 := rfl
theorem make_64 (w : World) : (Instr.makeSlice 41 (.int .i64 64) (.int .i64 64)).run Try.prog w = .ok (.slice (some ⟨w.heap.size, 0, none⟩) 64 64) (w.alloc (.cells (madeCells #[.int .u8 0] 64) 5)) := by
  obtain ⟨i0, hi, hz0, hz1, hz2⟩ := info_parts byte_info
  have := run_make (P := Try.prog) w 41 5 i0 (.int .u8 0) Try.underlying41 hi hz0 .i64 .i64 64 64 (by omega) (by omega) (by rw [hz2]; omega) (by omega)
  rw [hz1, Nat.mul_one] at this
  exact this
theorem conv_64 (w : World) : (convert 41 9 (.slice (some ⟨w.heap.size, 0, none⟩) 64 64)).run Try.prog (w.alloc (.cells (madeCells #[.int .u8 0] 64) 5)) = .ok (.string zero64) (w.alloc (.cells (madeCells #[.int .u8 0] 64) 5)) := by
  refine run_convert_bytes_back (w.alloc (.cells (madeCells #[.int .u8 0] 64) 5)) 41 9 5 ⟨w.heap.size, 0, none⟩ 64 (List.replicate 64 0) Try.underlying41 Try.underlying5 Try.underlying9 fun j hj => ?_
  have hj' : j < 64 := by simpa using hj
  rw [Addr.add_lit, Nat.zero_add, World.cell?_alloc_at (w := w) _ _ _ _ rfl]
  have e : ∀ (l : List UInt8) (h : j < l.length), l = List.replicate 64 0 → l[j].toNat = 0 := fun l h e => by subst e; rw [List.getElem_replicate]; rfl
  rw [e _ hj rfl]
  simp [madeCells, hj', Nat.mod_one]
/-- How many sectors a new disk has. -/
def ndN (n : Int) : Nat := if n < 0 then 0 else if 100000 < n then 100000 else n.toNat
def NdR (w : World) (N : Nat) (p : Int) (e : Ending) (w' : World) : Prop := ∃ b x c, e = .returned (.pointer (some ⟨b, 0, none⟩)) ∧ w.heap.size ≤ b ∧ DkAt w' b x c ⟨List.replicate N zero64, p, 0, false⟩ ∧ (∀ a, x = some a → w.heap.size ≤ a.block) ∧ Below w.heap.size w w'
theorem four_made (w : World) (x y z u : Value) (T : TypeId) : OB (w.alloc (.cells #[x, y, z, u] T)) w.heap.size #[x, y, z, u] T := by
  show (w.heap.push _)[w.heap.size]? = _
  simp
theorem dnth_rep {N j : Nat} {t : ByteArray} (h : j < N) : dnth (List.replicate N t) j = t := by simp [dnth, List.getD_eq_getElem?_getD, h]
set_option maxRecDepth 100000 in
set_option maxHeartbeats 2000000 in
theorem newDisk_any (n p : Int) (w : World) :
    Calls Try.prog 5 #[.int .i64 n, .int .i64 p] w fun e w' => NdR w (ndN n) p e w' := by
  have HBX := Lib.hid (kbelow_box w (.cells #[.slice none 0 0, .int .i64 p, .int .i64 0, .bool false] 40))
  have HOB := Lib.hid (four_made w (.slice none 0 0) (.int .i64 p) (.int .i64 0) (.bool false) 40)
  by_cases h0 : n < 0
  · have HN : Hid (ndN n = 0) := Lib.hid (by unfold ndN; rw [if_pos h0])
    rw [HN.out]
    go_enter Try.func5, Try.ntmps5
    go_wp2_with fail
    go_loopw [12] (fun i wr => ∃ (j : Nat) (v : Value), j ≤ 0 ∧ i = .int .i64 j ∧ OB wr w.heap.size #[v, .int .i64 p, .int .i64 0, .bool false] 40 ∧ GrowS wr (w.heap.size + 1) v (List.replicate j zero64) ∧ Below w.heap.size w wr) (fun i _ => 0 - (intOf i).toNat)
    case atStart => exact ⟨0, _, Nat.zero_le _, rfl, HOB.out, World.ownsRow_nil _ _ _ _, HBX.out⟩
    case round =>
      obtain ⟨j, v, hj, rfl, hob, hgr, hbw⟩ := hrel
      have HO := Lib.hid hob
      have HG := Lib.hid hgr
      have HW := Lib.hid hbw
      have hwl := hob.lt
      obtain ⟨⟨c0, f0⟩, -⟩ := hob.four
      clear hob hgr hbw
      by_cases hlt : j < 0
      · have hlt' : (j : Int) < (0 : Int) := by omega
        have hmk := make_64 wr.drew
        have hcv : (convert 41 9 (.slice (some ⟨wr.heap.size, 0, none⟩) 64 64)).run Try.prog (wr.alloc (.cells (madeCells #[.int .u8 0] 64) 5)).drew = .ok (.string zero64) (wr.alloc (.cells (madeCells #[.int .u8 0] 64) 5)).drew := conv_64 wr.drew
        have hs1 : (wr.drew.alloc (.cells (madeCells #[.int .u8 0] 64) 5)).heap.size = wr.heap.size + 1 := by simp
        obtain ⟨v9, w9, hrun, hg9, hgb9⟩ := run_app_s ((wr.drew.alloc (.cells (madeCells #[.int .u8 0] 64) 5)).alloc (.cells #[.string zero64] 9)) 38 (w.heap.size + 1) v (List.replicate j zero64) ((HG.out.alloc _).alloc _) (wr.heap.size + 1) 0 1 1 [zero64] rfl (fun q hq => by
          obtain rfl : q = 0 := by omega
          rw [← hs1, World.cell?_alloc_at (w := wr.drew.alloc (.cells (madeCells #[.int .u8 0] 64) 5)) _ _ _ _ rfl]
          rfl) (by simp; omega) (by simp; omega)
        have HN9 := Lib.hid (hgb9.block w.heap.size (by simp; omega) (fun e => by have := (HG.out.lt _ e.symm).1; omega))
        have hob2 : OB ((wr.drew.alloc (.cells (madeCells #[.int .u8 0] 64) 5)).alloc (.cells #[.string zero64] 9)) w.heap.size #[v, .int .i64 p, .int .i64 0, .bool false] 40 := HO.out.below (((kbelow_dN (Below.refl wr.heap.size wr) 1).alloc (Nat.le_refl _) _).alloc (by simp) _)
        have hob1 : OB (wr.drew.alloc (.cells (madeCells #[.int .u8 0] 64) 5)) w.heap.size #[v, .int .i64 p, .int .i64 0, .bool false] 40 := HO.out.below ((kbelow_dN (Below.refl wr.heap.size wr) 1).alloc (Nat.le_refl _) _)
        have hob9 : OB w9 w.heap.size #[v, .int .i64 p, .int .i64 0, .bool false] 40 := by
          unfold OB at hob2 ⊢
          rw [HN9.out]
          exact hob2
        obtain ⟨x9, n9, c9, rfl⟩ : ∃ x n c, v9 = .slice x n c := by
          obtain ⟨x, c, e, -⟩ := hg9.form
          exact ⟨x, _, c, e⟩
        obtain ⟨x, n, cc, rfl⟩ : ∃ x n c, v = .slice x n c := by
          obtain ⟨x, c, e, -⟩ := HG.out.form
          exact ⟨x, _, c, e⟩
        have k1 := hob1.four.1.1
        have k2 := hob2.four.1.1
        have k9 := hob9.four.1.1
        have f9 := hob9.four.1.2
        have HB9 := Lib.hid (((HW.out.trans ((((kbelow_dN (Below.refl wr.heap.size wr) 1).alloc (Nat.le_refl _) (.cells (madeCells #[.int .u8 0] 64) 5)).alloc (by simp) (.cells #[.string zero64] 9)).mono (by omega))).grown hgb9 (by simp; omega) (fun k hk => by have := (HG.out.lt k hk).1; omega)).setCell (p := ⟨w.heap.size, 0, none⟩) (Nat.le_refl _) (.slice x9 n9 c9))
        have HG9 := Lib.hid (hg9.put (p := ⟨w.heap.size, 0, none⟩) (by simp) (.slice x9 n9 c9))
        have HO9 := Lib.hid (hob9.set 0 (.slice x9 n9 c9))
        have HMK := Lib.hid hmk
        have HCV := Lib.hid hcv
        have HRUN := Lib.hid hrun
        clear hob1 hob2 hob9 hg9 hgb9 hrun hs1
        have hltB : decide ((j : Int) < (0 : Int)) = true := decide_eq_true hlt'
        go_wp2_with fail
        go_region_law (refine step_run _ rfl (.tmp 18) (.tmp 21) 38 rfl rfl rfl HRUN.out ?_)
        all_goals go_wp2_with fail
        all_goals go_roundw
        all_goals first
          | (refine ⟨j + 1, _, by omega, by go_num, HO9.out, ?_, HB9.out⟩; rw [List.replicate_succ']; exact HG9.out)
          | (simp [intOf]; omega)
      · have hjN : j = 0 := by omega
        have hltB : decide ((j : Int) < (0 : Int)) = false := decide_eq_false (by omega)
        obtain ⟨x, c, rfl, hx, hrow⟩ := HG.out.form
        rw [List.length_replicate] at c0
        go_wp2_with fail
        go_ret
        have key : ∀ N, j = N → DkAt wr w.heap.size x c ⟨List.replicate N zero64, p, 0, false⟩ := by
          rintro _ rfl
          exact ⟨by simpa using HO.out, fun h0 => by
            have h0' : 0 < (List.replicate j zero64).length := h0
            obtain ⟨g, e, h1, h2, h3⟩ := hrow h0'
            exact ⟨g, e, by omega, h2, h3⟩⟩
        exact ⟨_, x, c, rfl, Nat.le_refl _, key _ hjN, fun a e => by have := hx a e; omega, HW.out⟩
  · by_cases h1 : 100000 < n
    · have HN : Hid (ndN n = 100000) := Lib.hid (by unfold ndN; rw [if_neg h0, if_pos h1])
      rw [HN.out]
      go_enter Try.func5, Try.ntmps5
      go_wp2_with fail
      go_loopw [12] (fun i wr => ∃ (j : Nat) (v : Value), j ≤ 100000 ∧ i = .int .i64 j ∧ OB wr w.heap.size #[v, .int .i64 p, .int .i64 0, .bool false] 40 ∧ GrowS wr (w.heap.size + 1) v (List.replicate j zero64) ∧ Below w.heap.size w wr) (fun i _ => 100000 - (intOf i).toNat)
      case atStart => exact ⟨0, _, Nat.zero_le _, rfl, HOB.out, World.ownsRow_nil _ _ _ _, HBX.out⟩
      case round =>
        obtain ⟨j, v, hj, rfl, hob, hgr, hbw⟩ := hrel
        have HO := Lib.hid hob
        have HG := Lib.hid hgr
        have HW := Lib.hid hbw
        have hwl := hob.lt
        obtain ⟨⟨c0, f0⟩, -⟩ := hob.four
        clear hob hgr hbw
        by_cases hlt : j < 100000
        · have hlt' : (j : Int) < (100000 : Int) := by omega
          have hmk := make_64 wr.drew
          have hcv : (convert 41 9 (.slice (some ⟨wr.heap.size, 0, none⟩) 64 64)).run Try.prog (wr.alloc (.cells (madeCells #[.int .u8 0] 64) 5)).drew = .ok (.string zero64) (wr.alloc (.cells (madeCells #[.int .u8 0] 64) 5)).drew := conv_64 wr.drew
          have hs1 : (wr.drew.alloc (.cells (madeCells #[.int .u8 0] 64) 5)).heap.size = wr.heap.size + 1 := by simp
          obtain ⟨v9, w9, hrun, hg9, hgb9⟩ := run_app_s ((wr.drew.alloc (.cells (madeCells #[.int .u8 0] 64) 5)).alloc (.cells #[.string zero64] 9)) 38 (w.heap.size + 1) v (List.replicate j zero64) ((HG.out.alloc _).alloc _) (wr.heap.size + 1) 0 1 1 [zero64] rfl (fun q hq => by
            obtain rfl : q = 0 := by omega
            rw [← hs1, World.cell?_alloc_at (w := wr.drew.alloc (.cells (madeCells #[.int .u8 0] 64) 5)) _ _ _ _ rfl]
            rfl) (by simp; omega) (by simp; omega)
          have HN9 := Lib.hid (hgb9.block w.heap.size (by simp; omega) (fun e => by have := (HG.out.lt _ e.symm).1; omega))
          have hob2 : OB ((wr.drew.alloc (.cells (madeCells #[.int .u8 0] 64) 5)).alloc (.cells #[.string zero64] 9)) w.heap.size #[v, .int .i64 p, .int .i64 0, .bool false] 40 := HO.out.below (((kbelow_dN (Below.refl wr.heap.size wr) 1).alloc (Nat.le_refl _) _).alloc (by simp) _)
          have hob1 : OB (wr.drew.alloc (.cells (madeCells #[.int .u8 0] 64) 5)) w.heap.size #[v, .int .i64 p, .int .i64 0, .bool false] 40 := HO.out.below ((kbelow_dN (Below.refl wr.heap.size wr) 1).alloc (Nat.le_refl _) _)
          have hob9 : OB w9 w.heap.size #[v, .int .i64 p, .int .i64 0, .bool false] 40 := by
            unfold OB at hob2 ⊢
            rw [HN9.out]
            exact hob2
          obtain ⟨x9, n9, c9, rfl⟩ : ∃ x n c, v9 = .slice x n c := by
            obtain ⟨x, c, e, -⟩ := hg9.form
            exact ⟨x, _, c, e⟩
          obtain ⟨x, n, cc, rfl⟩ : ∃ x n c, v = .slice x n c := by
            obtain ⟨x, c, e, -⟩ := HG.out.form
            exact ⟨x, _, c, e⟩
          have k1 := hob1.four.1.1
          have k2 := hob2.four.1.1
          have k9 := hob9.four.1.1
          have f9 := hob9.four.1.2
          have HB9 := Lib.hid (((HW.out.trans ((((kbelow_dN (Below.refl wr.heap.size wr) 1).alloc (Nat.le_refl _) (.cells (madeCells #[.int .u8 0] 64) 5)).alloc (by simp) (.cells #[.string zero64] 9)).mono (by omega))).grown hgb9 (by simp; omega) (fun k hk => by have := (HG.out.lt k hk).1; omega)).setCell (p := ⟨w.heap.size, 0, none⟩) (Nat.le_refl _) (.slice x9 n9 c9))
          have HG9 := Lib.hid (hg9.put (p := ⟨w.heap.size, 0, none⟩) (by simp) (.slice x9 n9 c9))
          have HO9 := Lib.hid (hob9.set 0 (.slice x9 n9 c9))
          have HMK := Lib.hid hmk
          have HCV := Lib.hid hcv
          have HRUN := Lib.hid hrun
          clear hob1 hob2 hob9 hg9 hgb9 hrun hs1
          have hltB : decide ((j : Int) < (100000 : Int)) = true := decide_eq_true hlt'
          go_wp2_with fail
          go_region_law (refine step_run _ rfl (.tmp 18) (.tmp 21) 38 rfl rfl rfl HRUN.out ?_)
          all_goals go_wp2_with fail
          all_goals go_roundw
          all_goals first
            | (refine ⟨j + 1, _, by omega, by go_num, HO9.out, ?_, HB9.out⟩; rw [List.replicate_succ']; exact HG9.out)
            | (simp [intOf]; omega)
        · have hjN : j = 100000 := by omega
          have hltB : decide ((j : Int) < (100000 : Int)) = false := decide_eq_false (by omega)
          obtain ⟨x, c, rfl, hx, hrow⟩ := HG.out.form
          rw [List.length_replicate] at c0
          go_wp2_with fail
          go_ret
          have key : ∀ N, j = N → DkAt wr w.heap.size x c ⟨List.replicate N zero64, p, 0, false⟩ := by
            rintro _ rfl
            exact ⟨by simpa using HO.out, fun h0 => by
              have h0' : 0 < (List.replicate j zero64).length := h0
              obtain ⟨g, e, h1, h2, h3⟩ := hrow h0'
              exact ⟨g, e, by omega, h2, h3⟩⟩
          exact ⟨_, x, c, rfl, Nat.le_refl _, key _ hjN, fun a e => by have := hx a e; omega, HW.out⟩
    · obtain ⟨N, rfl⟩ : ∃ N : Nat, n = (N : Int) := ⟨n.toNat, by omega⟩
      have HN : Hid (ndN (N : Int) = N) := Lib.hid (by unfold ndN; rw [if_neg h0, if_neg h1]; rfl)
      rw [HN.out]
      go_enter Try.func5, Try.ntmps5
      go_wp2_with fail
      go_loopw [12] (fun i wr => ∃ (j : Nat) (v : Value), j ≤ N ∧ i = .int .i64 j ∧ OB wr w.heap.size #[v, .int .i64 p, .int .i64 0, .bool false] 40 ∧ GrowS wr (w.heap.size + 1) v (List.replicate j zero64) ∧ Below w.heap.size w wr) (fun i _ => N - (intOf i).toNat)
      case atStart => exact ⟨0, _, Nat.zero_le _, rfl, HOB.out, World.ownsRow_nil _ _ _ _, HBX.out⟩
      case round =>
        obtain ⟨j, v, hj, rfl, hob, hgr, hbw⟩ := hrel
        have HO := Lib.hid hob
        have HG := Lib.hid hgr
        have HW := Lib.hid hbw
        have hwl := hob.lt
        obtain ⟨⟨c0, f0⟩, -⟩ := hob.four
        clear hob hgr hbw
        by_cases hlt : j < N
        · have hlt' : (j : Int) < (N : Int) := by omega
          have hmk := make_64 wr.drew
          have hcv : (convert 41 9 (.slice (some ⟨wr.heap.size, 0, none⟩) 64 64)).run Try.prog (wr.alloc (.cells (madeCells #[.int .u8 0] 64) 5)).drew = .ok (.string zero64) (wr.alloc (.cells (madeCells #[.int .u8 0] 64) 5)).drew := conv_64 wr.drew
          have hs1 : (wr.drew.alloc (.cells (madeCells #[.int .u8 0] 64) 5)).heap.size = wr.heap.size + 1 := by simp
          obtain ⟨v9, w9, hrun, hg9, hgb9⟩ := run_app_s ((wr.drew.alloc (.cells (madeCells #[.int .u8 0] 64) 5)).alloc (.cells #[.string zero64] 9)) 38 (w.heap.size + 1) v (List.replicate j zero64) ((HG.out.alloc _).alloc _) (wr.heap.size + 1) 0 1 1 [zero64] rfl (fun q hq => by
            obtain rfl : q = 0 := by omega
            rw [← hs1, World.cell?_alloc_at (w := wr.drew.alloc (.cells (madeCells #[.int .u8 0] 64) 5)) _ _ _ _ rfl]
            rfl) (by simp; omega) (by simp; omega)
          have HN9 := Lib.hid (hgb9.block w.heap.size (by simp; omega) (fun e => by have := (HG.out.lt _ e.symm).1; omega))
          have hob2 : OB ((wr.drew.alloc (.cells (madeCells #[.int .u8 0] 64) 5)).alloc (.cells #[.string zero64] 9)) w.heap.size #[v, .int .i64 p, .int .i64 0, .bool false] 40 := HO.out.below (((kbelow_dN (Below.refl wr.heap.size wr) 1).alloc (Nat.le_refl _) _).alloc (by simp) _)
          have hob1 : OB (wr.drew.alloc (.cells (madeCells #[.int .u8 0] 64) 5)) w.heap.size #[v, .int .i64 p, .int .i64 0, .bool false] 40 := HO.out.below ((kbelow_dN (Below.refl wr.heap.size wr) 1).alloc (Nat.le_refl _) _)
          have hob9 : OB w9 w.heap.size #[v, .int .i64 p, .int .i64 0, .bool false] 40 := by
            unfold OB at hob2 ⊢
            rw [HN9.out]
            exact hob2
          obtain ⟨x9, n9, c9, rfl⟩ : ∃ x n c, v9 = .slice x n c := by
            obtain ⟨x, c, e, -⟩ := hg9.form
            exact ⟨x, _, c, e⟩
          obtain ⟨x, n, cc, rfl⟩ : ∃ x n c, v = .slice x n c := by
            obtain ⟨x, c, e, -⟩ := HG.out.form
            exact ⟨x, _, c, e⟩
          have k1 := hob1.four.1.1
          have k2 := hob2.four.1.1
          have k9 := hob9.four.1.1
          have f9 := hob9.four.1.2
          have HB9 := Lib.hid (((HW.out.trans ((((kbelow_dN (Below.refl wr.heap.size wr) 1).alloc (Nat.le_refl _) (.cells (madeCells #[.int .u8 0] 64) 5)).alloc (by simp) (.cells #[.string zero64] 9)).mono (by omega))).grown hgb9 (by simp; omega) (fun k hk => by have := (HG.out.lt k hk).1; omega)).setCell (p := ⟨w.heap.size, 0, none⟩) (Nat.le_refl _) (.slice x9 n9 c9))
          have HG9 := Lib.hid (hg9.put (p := ⟨w.heap.size, 0, none⟩) (by simp) (.slice x9 n9 c9))
          have HO9 := Lib.hid (hob9.set 0 (.slice x9 n9 c9))
          have HMK := Lib.hid hmk
          have HCV := Lib.hid hcv
          have HRUN := Lib.hid hrun
          clear hob1 hob2 hob9 hg9 hgb9 hrun hs1
          have hltB : decide ((j : Int) < (N : Int)) = true := decide_eq_true hlt'
          go_wp2_with fail
          go_region_law (refine step_run _ rfl (.tmp 18) (.tmp 21) 38 rfl rfl rfl HRUN.out ?_)
          all_goals go_wp2_with fail
          all_goals go_roundw
          all_goals first
            | (refine ⟨j + 1, _, by omega, by go_num, HO9.out, ?_, HB9.out⟩; rw [List.replicate_succ']; exact HG9.out)
            | (simp [intOf]; omega)
        · have hjN : j = N := by omega
          have hltB : decide ((j : Int) < (N : Int)) = false := decide_eq_false (by omega)
          obtain ⟨x, c, rfl, hx, hrow⟩ := HG.out.form
          rw [List.length_replicate] at c0
          go_wp2_with fail
          go_ret
          have key : ∀ N, j = N → DkAt wr w.heap.size x c ⟨List.replicate N zero64, p, 0, false⟩ := by
            rintro _ rfl
            exact ⟨by simpa using HO.out, fun h0 => by
              have h0' : 0 < (List.replicate j zero64).length := h0
              obtain ⟨g, e, h1, h2, h3⟩ := hrow h0'
              exact ⟨g, e, by omega, h2, h3⟩⟩
          exact ⟨_, x, c, rfl, Nat.le_refl _, key _ hjN, fun a e => by have := hx a e; omega, HW.out⟩
end Go.Proofs.Ytdnngcibmkdhhaa
