/-
  Promise N2: the reference's yearsBy: what lines came to in the periods ahead that begin in a year.
  Promise N2: what lines came to in a year, period by period and all at once: the same. Said without memory.
  Promise N2: the reference's FreshOf.
-/
import Derived.Test.YtonceehdmnkffaaGreatDoorMU
import Derived.Test.YtonceehdmnkffaaGreatDoorJQ
import Derived.Test.YtonceehdmnkffaaGreatDoorMR
import Derived.Test.YtonceehdmnkffaaGreatDoorJK
import Derived.Test.YtonceehdmnkffaaGreatDoorJP
import Derived.Test.YtonceehdmnkffaaGreatDoorJW
import Derived.Test.YtonceehdmnkffaaGreatDoorJO
import Derived.Deep.RegionHeldLaw
set_option linter.unusedSimpArgs false
namespace Go.Proofs.YtonceehdmnkffaaGreatDoor
open Go.RowKit Go.Sort Go.Lib

theorem civil_be {f d : Int} {k m : Nat} (h : Cal.IsCivil f k m d) (w : World) : Calls Tryz.prog 27 #[.int .i64 f] w fun e w' => e = .returned (.agg #[.int .i64 (2000 + k), .int .i64 m, .int .i64 d]) ∧ Below w.heap.size w w' := by
  refine (Cal.civil_ref f w (decide_eq_true h.day)).mono ?_
  rintro e w' ⟨k', m', d', rfl, hc, hb⟩
  obtain ⟨rfl, rfl, rfl⟩ := h.unique hc
  exact ⟨rfl, hb⟩
theorem date_yr (x y z : Value) (W : World) : Sem.run Tryz.prog (Instr.field 60 (.agg #[x, y, z]) 0) W = .ok x W := by kernel_rfl
theorem info_bool : (Tryz.prog.info? 4).map (fun i => (i.zero, i.size, i.bytes)) = some (some (.bool false), 1, 1) := by kernel_rfl
/-- The slice v, nil or of the call's own from block B on, holds the bools l. -/
def GrowB (w : World) (B : Nat) (v : Value) (l : List Value) : Prop := w.ownsRow B 4 1 v l.length l
theorem GrowB.nil (w : World) (B : Nat) : GrowB w B (.slice none 0 0) [] := World.ownsRow_nil _ _ _ _
theorem GrowB.lt {w : World} {B : Nat} {v : Value} {l : List Value} (h : GrowB w B v l) : ∀ k, v.ownBlock = some k → B ≤ k ∧ k < w.heap.size := World.ownsRow.lt h
theorem GrowB.below {w w' : World} {B : Nat} {v : Value} {l : List Value} (h : GrowB w B v l) (hb : Go.RowKit.Below w.heap.size w w') : GrowB w' B v l := by
  refine World.ownsRow.kept (row := none) h ⟨hb.os, hb.tape, hb.output, hb.size, fun k hk _ => hb.block k hk⟩ ?_
  cases v.ownBlock with
  | none => exact .inl rfl
  | some k => exact .inr (Option.some_ne_none k)
theorem GrowB.form {w : World} {B : Nat} {v : Value} {l : List Value} (h : GrowB w B v l) : (v = .slice none 0 0 ∧ l = []) ∨ ∃ g c, v = .slice (some ⟨g, 0, none⟩) l.length c ∧ g < w.heap.size ∧ ∀ j (hj : j < l.length), w.cell? ⟨g, j, none⟩ = some l[j] := by
  have hh := h
  rcases h.2 with ⟨h1, h2⟩ | ⟨g, c, cur, h1, h2, hgc, h4, _⟩
  · exact .inl ⟨h1, List.eq_nil_of_length_eq_zero h2⟩
  · subst h1
    refine .inr ⟨g, c, rfl, (GrowB.lt hh g rfl).2, fun j hj => ?_⟩
    have := World.ownsRow.cells hh (g := g) rfl j l[j] (by simp [hj])
    rwa [Addr.add_lit, Nat.zero_add] at this
theorem GrowB.open {w : World} {B : Nat} {v : Value} {l : List Value} (h : GrowB w B v l) : ∃ y cy, v = .slice y l.length cy ∧ ∀ j (hj : j < l.length), ∃ g, y = some ⟨g, 0, none⟩ ∧ g < w.heap.size ∧ w.cell? ⟨g, j, none⟩ = some l[j] := by
  rcases h.form with ⟨h1, h2⟩ | ⟨g, c, h1, h2, h3⟩
  · subst h2; exact ⟨none, 0, h1, fun j hj => absurd hj (Nat.not_lt_zero _)⟩
  · exact ⟨_, c, h1, fun j hj => ⟨g, rfl, h2, h3 j hj⟩⟩
theorem wpList_app_b {ops : Array Oper} {rest : List Oper} {o : Oper} {a : Act} {Q : Exit → Act → World → Prop} (w : World) (hgd : o.guard = none) (s x : Operand)
    (ho : o.op = .call { callee := .builtin .append, args := #[s, x], argTypes := #[117, 117] })
    (B : Nat) (v : Value) (l : List Value) (hs : a.eval s = v) (hown : GrowB w B v l) (b c : Nat) (u : Bool) (hx : a.eval x = .slice (some ⟨b, 0, none⟩) 1 c) (hsrc : w.cell? ⟨b, 0, none⟩ = some (.bool u))
    (hl : l.length ≤ 1000) (hB : B ≤ w.heap.size)
    (h : ∀ v' w', GrowB w' B v' (l ++ [.bool u]) → Go.RowKit.Below B w w' → wpList Tryz.prog ops Q rest (a.put o.dst v') w') :
    wpList Tryz.prog ops Q (o :: rest) a w := by
  obtain ⟨i0, hi, hz0, hz1, hz2⟩ := info_parts info_bool
  have hnews : ∀ j z, [Value.bool u][j]? = some z → w.cell? ((⟨b, 0, none⟩ : Addr).add j) = some z := by
    intro j z hj
    match j, hj with
    | 0, hj => simp at hj; subst hj; simpa [Addr.add] using hsrc
  obtain ⟨v', w', hr, h2, h3, _, h5⟩ := run_append_own_at (P := Tryz.prog) w B 117 o.type 4 i0 _ 1 1 Tryz.underlying117 hi hz0 hz1 hz2 rfl (by decide) v l.length l hown ⟨b, 0, none⟩ 1 c [.bool u] rfl hnews (fun z hz => by simp at hz; subst hz; rfl) (by unfold maxLen; omega) (by omega) hB
  refine wpList_plain hgd fun _ hK => ?_
  unfold Oper.wp execOp
  simp only [ho, resolve, invoke, builtin, Sem.run_bind, Sem.run_pure, Result.andThen_ok, List.map_toArray, List.map_cons, List.map_nil, hs, hx, hr]
  refine hK _ _ (h v' w' ?_ ((Below.refl B w).grown h3 hB fun k hk => (GrowB.lt hown k hk).1))
  unfold GrowB
  rw [List.length_append]
  exact h2
/-- What line i came to in those of the first k periods that begin in a year. -/
def ysum (ks : Nat → Nat) (year : Int) (outs : List (List Int)) (i : Nat) : Nat → Int
  | 0 => 0
  | k + 1 => ysum ks year outs i k + if ((2000 + (ks k : Int)) == year) = true then nth (outN outs k) i else 0
def ysums (ks : Nat → Nat) (year : Int) (outs : List (List Int)) (nl m : Nat) : List Int := (List.range nl).map fun i => ysum ks year outs i m
theorem ysums_at (ks : Nat → Nat) (year : Int) (outs : List (List Int)) {nl m i : Nat} (h : i < nl) : nth (ysums ks year outs nl m) i = ysum ks year outs i m := by simp [nth, ysums, List.getD_eq_getElem?_getD, h]
def inL (ks : Nat → Nat) (year : Int) (k : Nat) : List Value := (List.range k).map fun j => Value.bool ((2000 + (ks j : Int)) == year)
theorem inL_len (ks : Nat → Nat) (year : Int) (k : Nat) : (inL ks year k).length = k := by simp [inL]
theorem inL_succ (ks : Nat → Nat) (year : Int) (k : Nat) : inL ks year (k + 1) = inL ks year k ++ [.bool ((2000 + (ks k : Int)) == year)] := by simp [inL, List.range_succ]
theorem ysum_bd {ks : Nat → Nat} {year : Int} {outs : List (List Int)} {i m : Nat} (h : ∀ j, j < m → monB (nth (outN outs j) i) = true) : ∀ k, k ≤ m → -(1000000000000 * (k : Int)) ≤ ysum ks year outs i k ∧ ysum ks year outs i k ≤ 1000000000000 * (k : Int)
  | 0, _ => by simp [ysum]
  | k + 1, hk => by
    have ih := ysum_bd (ks := ks) (year := year) h k (by omega)
    have h1 := monB_iff.1 (h k (by omega))
    have e : ((k + 1 : Nat) : Int) = (k : Int) + 1 := by omega
    rw [ysum, e]
    split <;> omega
/-- Lists that have been reckoned, as they are handed over. -/
def DoneAt (w : World) (dv : Value) (m B : Nat) (outs : List (List Int)) : Prop := (m = 0 ∧ ∃ x c, dv = .slice x 0 c) ∨ ∃ g c, dv = .slice (some ⟨g, 0, none⟩) m c ∧ RowsAt w g 0 m B outs
theorem DoneAt.below {w w' : World} {dv : Value} {m B : Nat} {outs : List (List Int)} (h : DoneAt w dv m B outs) (hb : Below w.heap.size w w') : DoneAt w' dv m B outs := by
  rcases h with h | ⟨g, c, h1, h2⟩
  · exact .inl h
  · exact .inr ⟨g, c, h1, h2.below hb⟩
theorem DoneAt.shape {w : World} {dv : Value} {m B : Nat} {outs : List (List Int)} (h : DoneAt w dv m B outs) : ∃ x c, dv = .slice x m c := by
  rcases h with ⟨rfl, x, c, h⟩ | ⟨g, c, h, _⟩
  · exact ⟨x, c, h⟩
  · exact ⟨_, c, h⟩
set_option maxRecDepth 100000 in
set_option maxHeartbeats 8000000 in
theorem yearsBy_ref (p : Pl) (al at' ai : Option Addr) (nl nt ni cl ct ci : Nat) (gf cf many m B : Nat) (fs : Nat → Int) (ks : Nat → Nat) (dv : Value) (outs : List (List Int)) (year : Int) (w : World) (hc : CameL w al p.lns) (h1 : p.lns.length = nl) (hnl : nl ≤ 30) (hap : LApart p) (hf : At w gf 0 (daysL fs many)) (hm : m ≤ many) (hm60 : m ≤ 60) (hcv : ∀ j, j < m → ∃ mm d, Cal.IsCivil (fs j) (ks j) mm d) (hdn : DoneAt w dv m B outs) (hmon : ∀ j, j < m → (outN outs j).length = nl ∧ ∀ i, i < nl → monB (nth (outN outs j) i) = true) :
    Calls Tryz.prog 39 #[.agg #[.int .i64 p.K, .int .i64 p.A, .int .i64 p.L, .slice al nl cl, .slice at' nt ct, .slice ai ni ci], .slice (some ⟨gf, 0, none⟩) many cf, dv, .int .i64 year] w fun e w' => ∃ (rv : Value) (ok : Bool), e = .returned (.tuple #[rv, .bool ok]) ∧ ((ok = false ∧ rv = .slice none 0 0 ∧ ∃ i, i < nl ∧ monB (ysum ks year outs i m) = false) ∨ (ok = true ∧ (∀ i, i < nl → monB (ysum ks year outs i m) = true) ∧ ∃ x c yrs, rv = .slice x yrs.length c ∧ CameA w' x yrs ∧ YrsOf p.lns (ysums ks year outs nl m) nl yrs)) ∧ Below w.heap.size w w' := by
  have HB0 := Lib.hid (kbelow_box w (.cells #[.int .i64 p.K, .int .i64 p.A, .int .i64 p.L, .slice al nl cl, .slice at' nt ct, .slice ai ni ci] 28))
  have HP0 := Lib.hid (PBox.made w p.K p.A p.L al at' ai nl nt ni cl ct ci)
  have hs0 : (w.alloc (.cells #[.int .i64 p.K, .int .i64 p.A, .int .i64 p.L, .slice al nl cl, .slice at' nt ct, .slice ai ni ci] 28)).heap.size = w.heap.size + 1 := by simp
  have HC := Lib.hid hc
  have H1 := Lib.hid h1
  have HAP := Lib.hid hap
  have HF := Lib.hid hf
  have HCV := Lib.hid hcv
  have HDN := Lib.hid hdn
  have HMON := Lib.hid hmon
  obtain ⟨xd, cd, rfl⟩ := hdn.shape
  clear hc h1 hap hf hcv hdn hmon
  go_enter Tryz.func39, Tryz.ntmps39
  go_wp2_with fail
  generalize (w.alloc (.cells #[.int .i64 p.K, .int .i64 p.A, .int .i64 p.L, .slice al nl cl, .slice at' nt ct, .slice ai ni ci] 28)) = W at *
  go_loopw [10, 11] (fun v i wr => ∃ k : Nat, k ≤ m ∧ i = .int .i64 k ∧ GrowB wr W.heap.size v (inL ks year k) ∧ Below W.heap.size W wr) (fun _ i _ => m - (RowKit.intOf i).toNat)
  case atStart => exact ⟨0, Nat.zero_le _, rfl, GrowB.nil _ _, Below.refl _ _⟩
  case round =>
    obtain ⟨k, hk, rfl, hgr, hb⟩ := hrel
    have HG := Lib.hid hgr
    have HB := Lib.hid hb
    have HBW := Lib.hid (HB0.out.trans (hb.mono HB0.out.size))
    clear hgr hb
    by_cases hlt : k < m
    · have hlt' : (k : Int) < (m : Int) := by omega
      have hlm : (k : Int) < (many : Int) := by omega
      obtain ⟨mm, d, hciv⟩ := HCV.out k hlt
      have HCI := Lib.hid hciv
      have xf := (HBW.out.cell (p := ⟨gf, 0 + k, none⟩) HF.out.1).trans (HF.out.2 k (by rw [daysL_len]; omega))
      rw [daysL_at fs (show k < many by omega), Nat.zero_add] at xf
      have hlen : (inL ks year k).length ≤ 1000 := by rw [inL_len]; omega
      clear hciv
      go_wp2_with fail
      refine (civil_be HCI.out _).mono ?_
      rintro e w1 ⟨rfl, hb1⟩
      have HB1 := Lib.hid (HB.out.trans (hb1.mono HB.out.size))
      have HG1 := Lib.hid (HG.out.below hb1)
      obtain ⟨u, hu⟩ : ∃ u, ((2000 + (ks k : Int)) == year) = u := ⟨_, rfl⟩
      have HU := Lib.hid hu
      have HBX := Lib.hid (kbelow_box w1 (.cells #[.bool u] 4))
      have HGX := Lib.hid (HG1.out.below HBX.out)
      have HBY := Lib.hid (HB1.out.trans (HBX.out.mono HB1.out.size))
      have hfd := date_yr (.int .i64 (2000 + (ks k : Int))) (.int .i64 mm) (.int .i64 d)
      clear hb1 xf
      go_wp2_with (at_builtin; refine wpList_app_b _ rfl _ _ rfl W.heap.size _ (inL ks year k) rfl HGX.out w1.heap.size 1 u rfl (by simp) hlen HBY.out.size ?_; intro v9 w9 hg9 hb9; refine Hid.out ?_)
      have HG9 := Lib.hid hg9
      have HB9 := Lib.hid (HBY.out.trans hb9)
      clear hg9 hb9 hu
      unfold Hid
      go_wp2_with fail
      go_roundw
      case rel => exact ⟨k + 1, by omega, by go_num, by rw [inL_succ, HU.out]; exact HG9.out, HB9.out⟩
      case measure => simp [RowKit.intOf]; omega
    · obtain rfl : k = m := by omega
      have hltB : decide ((k : Int) < (k : Int)) = false := decide_eq_false (by omega)
      obtain ⟨y, cy, rfl, hyc⟩ := HG.out.open
      have HYC : Hid (∀ j, j < k → ∃ g, y = some ⟨g, 0, none⟩ ∧ g < wr.heap.size ∧ wr.cell? ⟨g, j, none⟩ = some (.bool ((2000 + (ks j : Int)) == year))) := Lib.hid (fun j hj => by
        obtain ⟨g, e1, e2, e3⟩ := hyc j (by rw [inL_len]; exact hj)
        exact ⟨g, e1, e2, by simpa [inL] using e3⟩)
      rw [inL_len]
      have hW1 : w.heap.size + 1 ≤ wr.heap.size := by have := HB.out.size; omega
      have HPW := Lib.hid (HP0.out.below HB.out (by omega))
      have HDW := Lib.hid (HDN.out.below HBW.out)
      clear hyc HG HB HB0 HP0 hs0
      generalize wr = wA at *
      go_wp2_with fail
      go_loopw [12, 13] (fun v i wr => ∃ (q : Nat) (F : List Am) (x : Option Addr) (c : Nat), q ≤ nl ∧ i = .int .i64 q ∧ v = .slice x F.length c ∧ OwnA wr (w.heap.size + 1) x c F ∧ upA F ∧ F.Perm (yrsK p.lns (ysums ks year outs nl k) q) ∧ (∀ r, r < q → monB (ysum ks year outs r k) = true) ∧ Below wA.heap.size wA wr) (fun _ i _ => nl - (RowKit.intOf i).toNat)
      case atStart => exact ⟨0, [], none, 0, Nat.zero_le _, rfl, rfl, .inl ⟨rfl, rfl, rfl⟩, List.Pairwise.nil, List.Perm.refl _, fun r hr => by omega, Below.refl _ _⟩
      case round =>
        obtain ⟨q, F, x9, c9, hq, rfl, rfl, how, hup, hpm, hmm, hb⟩ := hrel
        have HOW := Lib.hid how
        have HUP := Lib.hid hup
        have HPM := Lib.hid hpm
        have HMM := Lib.hid hmm
        have HB := Lib.hid hb
        have HBE := Lib.hid (HBW.out.trans (hb.mono HBW.out.size))
        have HP := Lib.hid (HPW.out.below hb (by omega))
        have hFL : F.length ≤ 30 := by have := hpm.length_eq; have := yrsK_len p.lns (ysums ks year outs nl k) q; omega
        clear how hup hpm hmm hb
        obtain ⟨_, x0, x1, x2, x3, x4, x5⟩ := HP.out
        by_cases hql : q < nl
        · have hql' : (q : Int) < (nl : Int) := by omega
          have HYB : Hid (∀ r, r ≤ k → -(1000000000000 * (r : Int)) ≤ ysum ks year outs q r ∧ ysum ks year outs q r ≤ 1000000000000 * (r : Int)) := Lib.hid (ysum_bd fun j hj => (HMON.out j hj).2 q hql)
          generalize wr = wC at *
          go_wp2_with fail
          go_loopw [14, 15] (fun s i wr => ∃ r : Nat, r ≤ k ∧ i = .int .i64 r ∧ s = .int .i64 (ysum ks year outs q r) ∧ wr = wC) (fun _ i _ => k - (RowKit.intOf i).toNat)
          case atStart => exact ⟨0, Nat.zero_le _, rfl, rfl, rfl⟩
          case round =>
            obtain ⟨r, hr, rfl, rfl, hwr⟩ := hrel
            subst hwr
            by_cases hrk : r < k
            · have hrk' : (r : Int) < (k : Int) := by omega
              obtain ⟨gi, rfl, hgi, xi⟩ := HYC.out r hrk
              have xi' := (HB.out.cell (p := ⟨gi, r, none⟩) hgi).trans xi
              have bd := HYB.out r hr
              obtain ⟨sm, hsm⟩ : ∃ sm, ysum ks year outs q r = sm := ⟨_, rfl⟩
              rw [hsm] at bd ⊢
              have HSM := Lib.hid hsm
              cases hu : ((2000 + (ks r : Int)) == year) with
              | false =>
                rw [hu] at xi'
                have HNX : Hid (ysum ks year outs q (r + 1) = sm) := Lib.hid (by rw [ysum, hsm, hu]; simp)
                clear hsm hu xi
                go_wp2_with fail
                go_roundw
                case rel => exact ⟨r + 1, by omega, by go_num, by rw [HNX.out], trivial⟩
                case measure => simp [RowKit.intOf]; omega
              | true =>
                rw [hu] at xi'
                obtain ⟨gd, cd', hdv, hrows⟩ : ∃ g c, Value.slice xd k cd = .slice (some ⟨g, 0, none⟩) k c ∧ RowsAt wA g 0 k B outs := by
                  rcases HDW.out with ⟨h, _⟩ | h
                  · omega
                  · exact h
                injection hdv with hd1 _ hd3
                subst hd1 hd3
                obtain ⟨rv, z0, hgr⟩ := (hrows.below HB.out).2 r hrk
                rw [Nat.zero_add] at z0
                obtain ⟨xr, cr, rfl, _, hor⟩ := hgr.own (by rw [(HMON.out r hrk).1]; omega)
                have z1 := hor.cell (j := q) (by rw [(HMON.out r hrk).1]; exact hql)
                rw [(HMON.out r hrk).1] at z0
                have bz := monB_iff.1 ((HMON.out r hrk).2 q hql)
                obtain ⟨z, hz⟩ : ∃ z, nth (outN outs r) q = z := ⟨_, rfl⟩
                rw [hz] at z1 bz
                have HNX : Hid (ysum ks year outs q (r + 1) = sm + z) := Lib.hid (by rw [ysum, hsm, hu, hz]; simp)
                have i1 : IntKind.i64.wrap (sm + z) = sm + z := IntWalk.i64_in _ (by omega)
                clear hsm hu hz hor hgr hrows xi
                go_wp2_with fail
                go_roundw
                case rel => exact ⟨r + 1, by omega, by go_num, by rw [HNX.out], trivial⟩
                case measure => simp [RowKit.intOf]; omega
            · obtain rfl : r = k := by omega
              have hrB : decide ((r : Int) < (r : Int)) = false := decide_eq_false (by omega)
              obtain ⟨sm, hsm⟩ : ∃ sm, ysum ks year outs q r = sm := ⟨_, rfl⟩
              rw [hsm]
              have HSM := Lib.hid hsm
              clear hsm
              by_cases hmB : monB sm = true
              · by_cases h0 : sm = 0
                · have h0B : (sm == 0) = true := by simp [h0]
                  have HZ := Lib.hid h0
                  clear h0
                  go_wp2_with (first | (go_at_call 47; refine (isMoney_ref _ _).mono ?_; rintro e w' ⟨rfl, h'⟩; subst w'; rw [hmB]))
                  go_roundw
                  case rel => exact ⟨q + 1, F, x9, c9, by omega, by go_num, rfl, HOW.out, HUP.out, by rw [yrsK, if_pos (by rw [ysums_at ks year outs hql, HSM.out, HZ.out])]; exact HPM.out, fun r' hr' => by
                    by_cases e : r' = q
                    · subst e; rw [HSM.out]; exact hmB
                    · exact HMM.out r' (by omega), HB.out⟩
                  case measure => simp [RowKit.intOf]; omega
                · have h0B : (sm == 0) = false := by simp [h0]
                  obtain ⟨b, off, rfl, hcell⟩ := HC.out.open H1.out (by omega)
                  obtain ⟨aj, cj, ⟨y0, y1, y2, y3, y4, y5⟩, hns, hkj⟩ := hcell wr HBE.out q hql
                  obtain ⟨nm, hnm⟩ : ∃ nm, (lnth p.lns q).name = nm := ⟨_, rfl⟩
                  rw [hnm] at y1
                  have HNM := Lib.hid hnm
                  have HZ := Lib.hid h0
                  have HOO := Lib.hid (fun h0 => HOW.out.came.open (n := F.length) rfl h0)
                  clear hcell hns hkj hnm h0 y0 y2 y3 y4 y5
                  generalize wr = wE at *
                  go_wp2_with (first | (go_at_call 47; refine (isMoney_ref _ _).mono ?_; rintro e w' ⟨rfl, h'⟩; subst w'; rw [hmB]))
                  go_loopw [16] (fun v wr => ∃ j : Nat, j ≤ F.length ∧ v = .int .i64 j ∧ (∀ i, i < j → ltS (anth F i).name nm = true) ∧ Below wE.heap.size wE wr) (fun v _ => F.length - (RowKit.intOf v).toNat)
                  case atStart => exact ⟨0, Nat.zero_le _, rfl, fun i hi => by omega, Below.refl _ _⟩
                  case round =>
                    obtain ⟨j, hj, rfl, hls, hb⟩ := hrel
                    have HLs := Lib.hid hls
                    have HB4 := Lib.hid hb
                    have u3 := (hb.cell (p := ⟨w.heap.size, 3, none⟩) (blt_of_cell x3)).trans x3
                    have u1 := (hb.cell (p := ⟨b, off + q * 6 + 1, none⟩) (blt_of_cell y1)).trans y1
                    clear hls hb
                    by_cases hjF : j < F.length
                    · have hjF' : (j : Int) < (F.length : Int) := by omega
                      obtain ⟨g2, o2, rfl, hcl⟩ := HOO.out (by omega)
                      obtain ⟨n0, n1⟩ := hcl wr HB4.out j hjF
                      obtain ⟨fn, hfn⟩ : ∃ fn, (anth F j).name = fn := ⟨_, rfl⟩
                      rw [hfn] at n0
                      have HFN := Lib.hid hfn
                      clear hcl n1 hfn
                      cases hlt4 : ltS fn nm with
                      | true =>
                        have hlb : Op.bytesLess fn.toList nm.toList = true := hlt4
                        go_wp2_with fail
                        have t0 := cell_regrown n0
                        have t1 := cell_regrown u3
                        have t2 := cell_regrown u1
                        refine wp_region_quiet_below (by kernel_rfl) (by kernel_rfl) ?_
                        repeat (go_big_quiet_step (fail))
                        refine wpQuiet_nil ?_
                        intro _ hw'
                        obtain ⟨⟨dq, osq⟩, hw''⟩ := hw'
                        subst hw''
                        have HBN := Lib.hid (HB4.out.trans ((below_regrown wr dq osq).mono HB4.out.size))
                        go_wp2_with fail
                        go_roundw
                        case rel => exact ⟨j + 1, by omega, by go_num, fun i hi => by
                          by_cases e : i = j
                          · subst e; rw [HFN.out]; exact hlt4
                          · exact HLs.out i (by omega), HBN.out⟩
                        case measure => simp [RowKit.intOf]; omega
                      | false =>
                        have hlb : Op.bytesLess fn.toList nm.toList = false := hlt4
                        have HLj : Hid (j < F.length → ltS (anth F j).name nm = false) := Lib.hid (fun _ => by rw [HFN.out]; exact hlt4)
                        go_wp2_with fail
                        have t0 := cell_regrown n0
                        have t1 := cell_regrown u3
                        have t2 := cell_regrown u1
                        refine wp_region_quiet_below (by kernel_rfl) (by kernel_rfl) ?_
                        repeat (go_big_quiet_step (fail))
                        refine wpQuiet_nil ?_
                        intro _ hw'
                        obtain ⟨⟨dq, osq⟩, hw''⟩ := hw'
                        subst hw''
                        have HBN := Lib.hid (HB4.out.trans ((below_regrown wr dq osq).mono HB4.out.size))
                        have Y0 := t1 dq osq
                        have Y1 := t2 dq osq
                        dsimp only
                        have HOU := Lib.hid ((HOW.out.below HB4.out).below (below_regrown wr dq osq))
                        generalize grow (redrawn wr dq) osq = U at *
                        have HBU := Lib.hid (HB.out.trans (HBN.out.mono HB.out.size))
                        have HNj : Hid (j < F.length → (anth F j).name ≠ nm) := Lib.hid (fun h e => by
                          obtain ⟨i, hi, hx⟩ := yrsK_mem (HPM.out.subset (anth_mem h))
                          have e1 : (anth F j).name = (lnth p.lns i).name := by rw [hx]
                          rw [e, ← HNM.out] at e1
                          exact HAP.out i q hi (by have := H1.out; omega) e1.symm)
                        have HJ0 := Lib.hid hj
                        have HTL : Hid ((F.take j).length = j) := by unfold Hid; rw [List.length_take]; omega
                        have hsl1 := run_head (some ⟨g2, o2, none⟩) F.length c9 j hj HOU.out.cap.1
                        obtain ⟨y9, c2, hsl2, hy9⟩ := run_tail (some ⟨g2, o2, none⟩) F.length c9 j hj HOU.out.cap.1
                        have HDL0 : Hid ((F.drop j).length = F.length - j) := by unfold Hid; rw [List.length_drop]
                        obtain ⟨m9, hm9⟩ : ∃ z, F.length - j = z := ⟨_, rfl⟩
                        rw [hm9] at hsl2 HDL0
                        have HDL := HDL0
                        have HM9 : Hid (m9 ≤ F.length) := by unfold Hid; omega
                        have HF6 := Lib.hid hFL
                        have HY9 := Lib.hid hy9
                        clear hm9 hy9 HDL0 t1 t2 u3 u1 x0 x1 x2 x3 x4 x5 y1
                        obtain ⟨nF, hnF⟩ : ∃ z, F.length = z := ⟨_, rfl⟩
                        rw [hnF] at hsl1 hsl2 hj HF6 HM9 hFL ⊢
                        have HNF := Lib.hid hnF
                        go_wp2_with fail
                        go_region_held3 (fun w' => w'.cell? ⟨w.heap.size, 3, none⟩ = some (.slice (some ⟨b, off, none⟩) nl cl) ∧ w'.cell? ⟨b, off + q * 6 + 1, none⟩ = some (.string nm)) (first | go_keep | trivial)
                          ((first
                            | (have := HA7; refine step_full _ rfl (.tmp 88) (.tmp 101) (by rfl) (some ⟨g2, o2, none⟩) j (F.take j) (by rfl) HTL.out (by exact head_full (HOU.out.below HB7.out) (by have := HNF.out; have := HJ0.out; omega)) g7 ([(⟨nm, sm⟩ : Am)] ++ F.drop j).length c7 ([(⟨nm, sm⟩ : Am)] ++ F.drop j) (by rfl) HA7.out rfl (by simp) (by have := HF6.out; have := HNF.out; simp; omega) ?_
                               intro v8 w8 hg8 hb8
                               have HG8 := Lib.hid hg8
                               have HB8 := Lib.hid (HB7.out.trans (hb8.mono HB7.out.size))
                               have s0 := (HB8.out.cell (p := ⟨w.heap.size, 3, none⟩) (blt_of_cell Y0)).trans Y0
                               have s1 := (HB8.out.cell (p := ⟨b, off + q * 6 + 1, none⟩) (blt_of_cell Y1)).trans Y1
                               clear hg8 hb8)
                            | (refine step_am _ rfl (.tmp 97) (.tmp 100) (by rfl) U.heap.size (.slice (some ⟨U.heap.size, 0, none⟩) 1 1) [(⟨nm, sm⟩ : Am)] (by rfl) (by first | exact GrowA.one U.drew ⟨nm, sm⟩ _ (Nat.le_refl _) | exact GrowA.one U ⟨nm, sm⟩ _ (Nat.le_refl _)) y9 m9 c2 (F.drop j) (by rfl) (by exact tail_came (HOU.out.below ((Below.refl U.heap.size U).drew.alloc (Nat.le_refl _) (.cells #[.string nm, .int .i64 sm] 72))) HY9.out) HDL.out (by have := HF6.out; have := HM9.out; have := HNF.out; simp; omega) (by simp) ?_
                               intro v7 w7 hg7 hb7
                               rcases hg7.form with ⟨_, hbad⟩ | ⟨g7, c7, rfl, _, hat7, _⟩
                               · cases hbad
                               have HB7 := Lib.hid (((Below.refl U.heap.size U).drew.alloc (Nat.le_refl _) (.cells #[.string nm, .int .i64 sm] 72)).trans hb7)
                               have HA7 := Lib.hid hat7
                               have r0 := (HB7.out.cell (p := ⟨w.heap.size, 3, none⟩) (blt_of_cell Y0)).trans Y0
                               have r1 := (HB7.out.cell (p := ⟨b, off + q * 6 + 1, none⟩) (blt_of_cell Y1)).trans Y1
                               clear hg7 hb7 hat7)))
                        obtain ⟨x8, c8, e8, ho8⟩ := OwnA.of HG8.out
                        subst e8
                        have HO8 := Lib.hid ho8
                        have HL8 : Hid ((F.take j ++ ([(⟨nm, sm⟩ : Am)] ++ F.drop j)).length = (insA j ⟨nm, sm⟩ F).length) := rfl
                        have hU1 : w.heap.size + 1 ≤ w7.heap.size := by have := HBU.out.size; have := HB7.out.size; omega
                        clear ho8 Y0 Y1
                        go_wp2_with fail
                        go_roundw
                        case rel => exact ⟨q + 1, insA j ⟨nm, sm⟩ F, x8, c8, by omega, by go_num, rfl, HO8.out.mono hU1, (ins_up HUP.out (by have := HNF.out; omega) HLs.out HLj.out HNj.out).1, by
                            rw [yrsK, if_neg (by rw [ysums_at ks year outs hql, HSM.out]; exact HZ.out), HNM.out, ysums_at ks year outs hql, HSM.out]
                            exact (insA_perm j ⟨nm, sm⟩ F).trans (List.Perm.append_right _ HPM.out), fun r' hr' => by
                            by_cases e : r' = q
                            · subst e; rw [HSM.out]; exact hmB
                            · exact HMM.out r' (by omega), HBU.out.trans (HB8.out.mono HBU.out.size)⟩
                        case measure => simp [RowKit.intOf]; omega
                    · have hjB : decide ((j : Int) < (F.length : Int)) = false := decide_eq_false (by omega)
                      have HLj : Hid (j < F.length → ltS (anth F j).name nm = false) := Lib.hid (fun h => absurd h hjF)
                      go_wp2_with fail
                      have t1 := cell_regrown u3
                      have t2 := cell_regrown u1
                      refine wp_region_quiet_below (by kernel_rfl) (by kernel_rfl) ?_
                      repeat (go_big_quiet_step (fail))
                      refine wpQuiet_nil ?_
                      intro _ hw'
                      obtain ⟨⟨dq, osq⟩, hw''⟩ := hw'
                      subst hw''
                      have HBN := Lib.hid (HB4.out.trans ((below_regrown wr dq osq).mono HB4.out.size))
                      have Y0 := t1 dq osq
                      have Y1 := t2 dq osq
                      dsimp only
                      have HOU := Lib.hid ((HOW.out.below HB4.out).below (below_regrown wr dq osq))
                      generalize grow (redrawn wr dq) osq = U at *
                      have HBU := Lib.hid (HB.out.trans (HBN.out.mono HB.out.size))
                      have HNj : Hid (j < F.length → (anth F j).name ≠ nm) := Lib.hid (fun h e => by
                        obtain ⟨i, hi, hx⟩ := yrsK_mem (HPM.out.subset (anth_mem h))
                        have e1 : (anth F j).name = (lnth p.lns i).name := by rw [hx]
                        rw [e, ← HNM.out] at e1
                        exact HAP.out i q hi (by have := H1.out; omega) e1.symm)
                      have HJ0 := Lib.hid hj
                      have HTL : Hid ((F.take j).length = j) := by unfold Hid; rw [List.length_take]; omega
                      have hsl1 := run_head x9 F.length c9 j hj HOU.out.cap.1
                      obtain ⟨y9, c2, hsl2, hy9⟩ := run_tail x9 F.length c9 j hj HOU.out.cap.1
                      have HDL0 : Hid ((F.drop j).length = F.length - j) := by unfold Hid; rw [List.length_drop]
                      obtain ⟨m9, hm9⟩ : ∃ z, F.length - j = z := ⟨_, rfl⟩
                      rw [hm9] at hsl2 HDL0
                      have HDL := HDL0
                      have HM9 : Hid (m9 ≤ F.length) := by unfold Hid; omega
                      have HF6 := Lib.hid hFL
                      have HY9 := Lib.hid hy9
                      clear hm9 hy9 HDL0 t1 t2 u3 u1 x0 x1 x2 x3 x4 x5 y1
                      obtain ⟨nF, hnF⟩ : ∃ z, F.length = z := ⟨_, rfl⟩
                      rw [hnF] at hsl1 hsl2 hj HF6 HM9 hFL ⊢
                      have HNF := Lib.hid hnF
                      go_wp2_with fail
                      go_region_held3 (fun w' => w'.cell? ⟨w.heap.size, 3, none⟩ = some (.slice (some ⟨b, off, none⟩) nl cl) ∧ w'.cell? ⟨b, off + q * 6 + 1, none⟩ = some (.string nm)) (first | go_keep | trivial)
                        ((first
                          | (have := HA7; refine step_full _ rfl (.tmp 88) (.tmp 101) (by rfl) x9 j (F.take j) (by rfl) HTL.out (by exact head_full (HOU.out.below HB7.out) (by have := HNF.out; have := HJ0.out; omega)) g7 ([(⟨nm, sm⟩ : Am)] ++ F.drop j).length c7 ([(⟨nm, sm⟩ : Am)] ++ F.drop j) (by rfl) HA7.out rfl (by simp) (by have := HF6.out; have := HNF.out; simp; omega) ?_
                             intro v8 w8 hg8 hb8
                             have HG8 := Lib.hid hg8
                             have HB8 := Lib.hid (HB7.out.trans (hb8.mono HB7.out.size))
                             have s0 := (HB8.out.cell (p := ⟨w.heap.size, 3, none⟩) (blt_of_cell Y0)).trans Y0
                             have s1 := (HB8.out.cell (p := ⟨b, off + q * 6 + 1, none⟩) (blt_of_cell Y1)).trans Y1
                             clear hg8 hb8)
                          | (refine step_am _ rfl (.tmp 97) (.tmp 100) (by rfl) U.heap.size (.slice (some ⟨U.heap.size, 0, none⟩) 1 1) [(⟨nm, sm⟩ : Am)] (by rfl) (by first | exact GrowA.one U.drew ⟨nm, sm⟩ _ (Nat.le_refl _) | exact GrowA.one U ⟨nm, sm⟩ _ (Nat.le_refl _)) y9 m9 c2 (F.drop j) (by rfl) (by exact tail_came (HOU.out.below ((Below.refl U.heap.size U).drew.alloc (Nat.le_refl _) (.cells #[.string nm, .int .i64 sm] 72))) HY9.out) HDL.out (by have := HF6.out; have := HM9.out; have := HNF.out; simp; omega) (by simp) ?_
                             intro v7 w7 hg7 hb7
                             rcases hg7.form with ⟨_, hbad⟩ | ⟨g7, c7, rfl, _, hat7, _⟩
                             · cases hbad
                             have HB7 := Lib.hid (((Below.refl U.heap.size U).drew.alloc (Nat.le_refl _) (.cells #[.string nm, .int .i64 sm] 72)).trans hb7)
                             have HA7 := Lib.hid hat7
                             have r0 := (HB7.out.cell (p := ⟨w.heap.size, 3, none⟩) (blt_of_cell Y0)).trans Y0
                             have r1 := (HB7.out.cell (p := ⟨b, off + q * 6 + 1, none⟩) (blt_of_cell Y1)).trans Y1
                             clear hg7 hb7 hat7)))
                      obtain ⟨x8, c8, e8, ho8⟩ := OwnA.of HG8.out
                      subst e8
                      have HO8 := Lib.hid ho8
                      have HL8 : Hid ((F.take j ++ ([(⟨nm, sm⟩ : Am)] ++ F.drop j)).length = (insA j ⟨nm, sm⟩ F).length) := rfl
                      have hU1 : w.heap.size + 1 ≤ w7.heap.size := by have := HBU.out.size; have := HB7.out.size; omega
                      clear ho8 Y0 Y1
                      go_wp2_with fail
                      go_roundw
                      case rel => exact ⟨q + 1, insA j ⟨nm, sm⟩ F, x8, c8, by omega, by go_num, rfl, HO8.out.mono hU1, (ins_up HUP.out (by have := HNF.out; omega) HLs.out HLj.out HNj.out).1, by
                          rw [yrsK, if_neg (by rw [ysums_at ks year outs hql, HSM.out]; exact HZ.out), HNM.out, ysums_at ks year outs hql, HSM.out]
                          exact (insA_perm j ⟨nm, sm⟩ F).trans (List.Perm.append_right _ HPM.out), fun r' hr' => by
                          by_cases e : r' = q
                          · subst e; rw [HSM.out]; exact hmB
                          · exact HMM.out r' (by omega), HBU.out.trans (HB8.out.mono HBU.out.size)⟩
                      case measure => simp [RowKit.intOf]; omega
              · have hmB' : monB sm = false := by simpa using hmB
                clear hmB
                go_wp2_with (first | (go_at_call 47; refine (isMoney_ref _ _).mono ?_; rintro e w' ⟨rfl, h'⟩; subst w'; rw [hmB']))
                refine bodyPost_ret (v := .tuple #[(.slice none 0 0), .bool false]) (by simp [results, Tryz.results39, go_sem] <;> rfl) rfl ?_
                exact ⟨_, _, rfl, .inl ⟨rfl, rfl, q, hql, by rw [HSM.out]; exact hmB'⟩, HBE.out⟩
        · obtain rfl : q = nl := by omega
          have hqB : decide ((q : Int) < (q : Int)) = false := decide_eq_false (by omega)
          go_wp2_with fail
          refine bodyPost_ret (v := .tuple #[(.slice x9 F.length c9), .bool true]) (by simp [results, Tryz.results39, go_sem] <;> rfl) rfl ?_
          exact ⟨_, _, rfl, .inr ⟨rfl, HMM.out, x9, c9, F, rfl, HOW.out.came, HPM.out, fun i j hij hj => by
            have := HUP.out
            unfold upA at this
            rw [List.pairwise_iff_getElem] at this
            have h := this i j (by omega) hj hij
            rw [← anth_get (by omega), ← anth_get hj] at h
            cases hh : ltS (anth F j).name (anth F i).name
            · rfl
            · have := ltS_trans h hh
              rw [ltS_irrefl] at this
              cases this⟩, HBE.out⟩
end Go.Proofs.YtonceehdmnkffaaGreatDoor
namespace Go.Proofs.YtonceehdmnkffaaGreatDoor
open Go.RowKit Go.Sort

theorem year_mono {x y : Int} {k m k' m' : Nat} {d d' : Int} (h : Cal.IsCivil x k m d) (h' : Cal.IsCivil y k' m' d') (hxy : x ≤ y) : k ≤ k' := by
  rcases Nat.lt_or_ge k' k with q | q
  · have a := h.in
    have b := h'.in
    have c := Cal.ys_mono (a := k' + 1) (b := k) (by omega)
    omega
  · exact q
/-- The years in which periods begin. -/
def YearsAre (fs : Nat → Int) (many : Nat) (ks : Nat → Nat) : Prop := ∀ j, j < many → ∃ mm d, Cal.IsCivil (fs j) (ks j) mm d
theorem years_le {K A L frm : Int} {many : Nat} {fs : Nat → Int} {ks : Nat → Nat} (hd : DaysAre K A L frm many fs) (hy : YearsAre fs many ks) : ∀ (b a : Nat), a ≤ b → b < many → ks a ≤ ks b
  | 0, a, hab, _ => by obtain rfl : a = 0 := by omega
                       exact Nat.le_refl _
  | b + 1, a, hab, hb => by
    by_cases e : a = b + 1
    · subst e; exact Nat.le_refl _
    · have ih := years_le hd hy b a (by omega) (by omega)
      obtain ⟨t1, h1⟩ := hd b (by omega)
      obtain ⟨t2, h2⟩ := hd (b + 1) hb
      obtain ⟨m1, d1, c1⟩ := hy b (by omega)
      obtain ⟨m2, d2, c2⟩ := hy (b + 1) hb
      have hn := h1.next (f' := fs (b + 1)) (t' := t2) (by rw [show frm + ((b : Nat) : Int) + 1 = frm + ((b + 1 : Nat) : Int) by omega]; exact h2)
      have hle := h1.ne
      have := year_mono c1 c2 (by omega)
      omega
theorem ysum_congr {ks : Nat → Nat} {year : Int} {o o' : List (List Int)} {i : Nat} : ∀ {k : Nat}, (∀ j, j < k → outN o j = outN o' j) → ysum ks year o i k = ysum ks year o' i k
  | 0, _ => rfl
  | k + 1, h => by rw [ysum, ysum, ysum_congr (fun j hj => h j (by omega)), h k (by omega)]
theorem ysum_none {ks : Nat → Nat} {year : Int} {o : List (List Int)} {i : Nat} : ∀ {k : Nat}, (∀ j, j < k → (2000 + (ks j : Int)) ≠ year) → ysum ks year o i k = 0
  | 0, _ => rfl
  | k + 1, h => by
    rw [ysum, ysum_none (fun j hj => h j (by omega)), if_neg (by simp; exact h k (by omega))]
    rfl
theorem Runs.year {p : Pl} {seen frm : Int} {nl ni many : Nat} {fs : Nat → Int} {ks : Nat → Nat} (hd : DaysAre p.K p.A p.L frm many fs) (hy : YearsAre fs many ks) {y : Int} {s : List Int} {c : Nat} {k : Nat} {vs : List Int} (hc : c < many) (h : StepIs p seen nl ni y s (frm + c) k vs) : k = ks c := by
  obtain ⟨f, t, d, m, yrs, a, b, _⟩ := h
  obtain ⟨t', a'⟩ := hd c hc
  obtain ⟨mm, d', b'⟩ := hy c hc
  obtain ⟨rfl, _, _⟩ := a.unique a'
  exact (b.unique b').1
/-- The sums so far, of the year in which the last period began. -/
theorem Runs.sums {p : Pl} {seen frm : Int} {nl ni many : Nat} {fs : Nat → Int} {ks : Nat → Nat} (h1 : p.lns.length = nl) (hd : DaysAre p.K p.A p.L frm many fs) (hy : YearsAre fs many ks) : ∀ {n : Nat} {y : Int} {s : List Int} {o : List (List Int)}, n ≤ many → Runs p seen frm nl ni n y s o → ∀ k, k < many → (n = 0 ∨ k = n ∨ k + 1 = n) → ∀ i, i < nl → nth (sumsAt y (ks k) nl s) i = ysum ks (2000 + (ks k : Int)) o i n
  | 0, y, s, o, hn, h, k, hk, _, i, hi => by
    obtain ⟨rfl, rfl, rfl⟩ := h.nil
    rw [sumsAt_zero]
    simp [nth, List.getD_eq_getElem?_getD, hi, ysum]
  | n + 1, y, s, o, hn, h, k, hk, hor, i, hi => by
    obtain ⟨y', s', o', k', vs, r, st, rfl, rfl, rfl⟩ := h.inv
    have ek := Runs.year hd hy (by omega) st
    subst ek
    have ho' : o'.length = n := r.len
    have hl : (sumsAt y' (ks n) nl s').length = nl := sumsAt_len (r.good h1).1
    have ih := Runs.sums h1 hd hy (by omega) r n (by omega) (.inr (.inl rfl)) i hi
    have last : outN (o' ++ [vs]) n = vs := by rw [← ho']; exact outN_new
    have pre : ysum ks (2000 + (ks n : Int)) (o' ++ [vs]) i n = ysum ks (2000 + (ks n : Int)) o' i n := ysum_congr fun j hj => outN_old (by omega)
    have now : nth (addK (sumsAt y' (ks n) nl s') vs nl) i = ysum ks (2000 + (ks n : Int)) (o' ++ [vs]) i (n + 1) := by
      rw [addK_at _ _ i (by omega), if_pos hi, ih, ysum, pre, last, if_pos (by simp)]
    by_cases e : ks k = ks n
    · rw [e]
      unfold sumsAt
      rw [if_pos rfl]
      exact now
    · have hkn : k = n + 1 := by
        rcases hor with h | h | h
        · omega
        · exact h
        · obtain rfl : k = n := by omega
          exact absurd rfl e
      subst hkn
      have hlt : ks n < ks (n + 1) := by
        have := years_le hd hy (n + 1) n (by omega) hk
        omega
      unfold sumsAt
      rw [if_neg (by omega), nth_replicate, ysum_none fun j hj => by
        have := years_le hd hy n j (by omega) (by omega)
        omega]
theorem yrsK_congr {l : List Ln} {s s' : List Int} : ∀ {k : Nat}, (∀ i, i < k → nth s i = nth s' i) → yrsK l s k = yrsK l s' k
  | 0, _ => rfl
  | k + 1, h => by rw [yrsK, yrsK, yrsK_congr (fun i hi => h i (by omega)), h k (by omega)]
theorem Runs.yrs {p : Pl} {seen frm : Int} {nl ni many n : Nat} {fs : Nat → Int} {ks : Nat → Nat} {y : Int} {s : List Int} {o : List (List Int)} {yrs : List Am} (h1 : p.lns.length = nl) (hd : DaysAre p.K p.A p.L frm many fs) (hy : YearsAre fs many ks) (hn : n < many) (h : Runs p seen frm nl ni n y s o) (hyr : YrsOf p.lns (ysums ks (2000 + (ks n : Int)) o nl n) nl yrs) : YrsOf p.lns (sumsAt y (ks n) nl s) nl yrs := by
  have e : yrsK p.lns (sumsAt y (ks n) nl s) nl = yrsK p.lns (ysums ks (2000 + (ks n : Int)) o nl n) nl := yrsK_congr fun i hi => by
    rw [ysums_at ks _ o hi]
    exact Runs.sums h1 hd hy (by omega) h n hn (.inr (.inl rfl)) i hi
  exact ⟨by rw [e]; exact hyr.1, hyr.2⟩
theorem yrsK_has {l : List Ln} {s : List Int} {i : Nat} : ∀ {k : Nat}, i < k → nth s i ≠ 0 → (⟨(lnth l i).name, nth s i⟩ : Am) ∈ yrsK l s k
  | 0, h, _ => by omega
  | k + 1, h, h0 => by
    rw [yrsK]
    by_cases e : i = k
    · subst e
      rw [if_neg h0]
      exact List.mem_append_right _ (by simp)
    · split
      · exact yrsK_has (by omega) h0
      · exact List.mem_append_left _ (yrsK_has (by omega) h0)
/-- Where a sum is no money, the period is not reckoned. -/
theorem step_money {p : Pl} {seen frm : Int} {nl ni many n : Nat} {fs : Nat → Int} {ks : Nat → Nat} {y : Int} {s : List Int} {o : List (List Int)} {k : Nat} {vs : List Int} (h1 : p.lns.length = nl) (hd : DaysAre p.K p.A p.L frm many fs) (hy : YearsAre fs many ks) (hn : n < many) (h : Runs p seen frm nl ni n y s o) (hst : StepIs p seen nl ni y s (frm + n) k vs) : ∀ i, i < nl → monB (ysum ks (2000 + (ks n : Int)) o i n) = true := by
  intro i hi
  have ek := Runs.year hd hy hn hst
  subst ek
  obtain ⟨f, t, d, m, yrs, _, _, hyr, hb, _⟩ := hst
  have hs := Runs.sums h1 hd hy (by omega) h n hn (.inr (.inl rfl)) i hi
  rw [← hs]
  by_cases h0 : nth (sumsAt y (ks n) nl s) i = 0
  · rw [h0]; rfl
  · have hm := hyr.1.symm.subset (yrsK_has (l := p.lns) hi h0)
    obtain ⟨_, hk, _⟩ := bind_ok hb
    have ha := (knE_parts hk).2.2.2.2.1
    obtain ⟨j, hj, e⟩ := List.mem_iff_getElem.1 hm
    have := ams_mon ha (j := j) hj
    rw [show anth (knAt p f seen ni yrs).yrs j = yrs[j] by simp [anth, knAt, List.getD_eq_getElem?_getD, hj], e] at this
    exact this
end Go.Proofs.YtonceehdmnkffaaGreatDoor
set_option linter.unusedSimpArgs false
namespace Go.Proofs.YtonceehdmnkffaaGreatDoor
open Go.RowKit Go.Sort

theorem at_total (K A L c : Int) : ∃ f t e, Cal.AtIs K A L c f t e := by
  by_cases hz : Cal.schedE K A L = 0
  · by_cases hk : c < 0 ∨ 5000 ≤ c
    · exact ⟨0, 0, 3, .inr ⟨hz, .inl ⟨hk, rfl, rfl, rfl⟩⟩⟩
    · obtain ⟨k1, k2, hdA, _, _⟩ := Cal.schedE_ok hz
      obtain ⟨k0, m0, d0, hc⟩ := Cal.civil_ex hdA
      have hcase : (K = 1 ∨ K = 2) ∨ K = 4 ∨ K = 3 := by omega
      rcases hcase with hK | rfl | rfl
      · by_cases q : A + 7 * K * c + 7 * K - 1 ≤ 73048
        · exact ⟨_, _, 0, .inr ⟨hz, .inr ⟨by omega, .inl ⟨hK, .inr ⟨q, rfl, rfl, rfl⟩⟩⟩⟩⟩
        · exact ⟨0, 0, 3, .inr ⟨hz, .inr ⟨by omega, .inl ⟨hK, .inl ⟨by omega, rfl, rfl, rfl⟩⟩⟩⟩⟩
      · by_cases q : 12 * (k0 : Int) + (m0 : Int) - 1 + c < 2400
        · exact ⟨_, _, 0, .inr ⟨hz, .inr ⟨by omega, .inr (.inl ⟨rfl, k0, m0, d0, hc, .inr ⟨q, rfl, rfl, rfl⟩⟩)⟩⟩⟩
        · exact ⟨0, 0, 3, .inr ⟨hz, .inr ⟨by omega, .inr (.inl ⟨rfl, k0, m0, d0, hc, .inl ⟨by omega, rfl, rfl, rfl⟩⟩)⟩⟩⟩
      · by_cases q : (12 * (k0 : Int) + (m0 : Int) - 1) * 2 + Cal.hf d0 + c < 4800
        · by_cases q2 : ((12 * (k0 : Int) + (m0 : Int) - 1) * 2 + Cal.hf d0 + c) % 2 = 0
          · exact ⟨_, _, 0, .inr ⟨hz, .inr ⟨by omega, .inr (.inr ⟨rfl, k0, m0, d0, hc, .inr (.inl ⟨q, q2, rfl, rfl, rfl⟩)⟩)⟩⟩⟩
          · exact ⟨_, _, 0, .inr ⟨hz, .inr ⟨by omega, .inr (.inr ⟨rfl, k0, m0, d0, hc, .inr (.inr ⟨q, by omega, rfl, rfl, rfl⟩)⟩)⟩⟩⟩
        · exact ⟨0, 0, 3, .inr ⟨hz, .inr ⟨by omega, .inr (.inr ⟨rfl, k0, m0, d0, hc, .inl ⟨by omega, rfl, rfl, rfl⟩⟩)⟩⟩⟩
  · exact ⟨0, 0, _, .inl ⟨hz, rfl, rfl, rfl⟩⟩
theorem days_all {K A L frm to f t : Int} {n : Nat} (h0 : 0 ≤ frm) (hn : frm + n = to + 1) (h : Cal.AtIs K A L to f t 0) : ∃ fs, DaysAre K A L frm n fs := by
  have each : ∀ j : Nat, ∃ g : Int, j < n → ∃ t, Cal.AtIs K A L (frm + j) g t 0 := fun j => by
    by_cases hj : j < n
    · obtain ⟨f', t', e, h'⟩ := at_total K A L (frm + j)
      obtain rfl := at_mono h (by omega) (by omega) h'
      exact ⟨f', fun _ => ⟨t', h'⟩⟩
    · exact ⟨0, fun q => absurd q hj⟩
  obtain ⟨fs, hfs⟩ := Classical.axiomOfChoice each
  exact ⟨fs, fun j hj => hfs j hj⟩
theorem years_all {K A L frm : Int} {n : Nat} {fs : Nat → Int} (h : DaysAre K A L frm n fs) : ∃ ks, YearsAre fs n ks := by
  have each : ∀ j : Nat, ∃ k : Nat, j < n → ∃ mm d, Cal.IsCivil (fs j) k mm d := fun j => by
    by_cases hj : j < n
    · obtain ⟨t, ha⟩ := h j hj
      obtain ⟨k, m, d, hc⟩ := Cal.civil_ex (at_day ha).1
      exact ⟨k, fun _ => ⟨m, d, hc⟩⟩
    · exact ⟨0, fun q => absurd q hj⟩
  obtain ⟨ks, hks⟩ := Classical.axiomOfChoice each
  exact ⟨ks, fun j hj => hks j hj⟩
/-- Lists as they grow. -/
structure OutAt (w : World) (B : Nat) (v : Value) (rows : List Value) (outs : List (List Int)) : Prop where
  g : GrowR w B v rows
  len : rows.length = outs.length
  row : ∀ j, j < rows.length → Grow w B (rowN rows j) (outN outs j)
  apart : ∀ j, j < rows.length → ∀ b, (rowN rows j).ownBlock = some b → v.ownBlock ≠ some b
theorem OutAt.below {w w' : World} {B : Nat} {v : Value} {rows : List Value} {outs : List (List Int)} (h : OutAt w B v rows outs) (hb : Below w.heap.size w w') : OutAt w' B v rows outs :=
  ⟨h.g.below hb, h.len, fun j hj => tgrow_below (h.row j hj) hb, h.apart⟩
theorem OutAt.nil (w : World) (B : Nat) : OutAt w B (.slice none 0 0) [] [] := ⟨GrowR.nil _ _, rfl, fun _ hj => absurd hj (Nat.not_lt_zero _), fun _ hj => absurd hj (Nat.not_lt_zero _)⟩
theorem OutAt.done {w : World} {B : Nat} {v : Value} {rows : List Value} {outs : List (List Int)} (h : OutAt w B v rows outs) : DoneAt w v outs.length B outs := by
  rcases h.g.form with ⟨h1, h2⟩ | ⟨g, c, h1, _, h3, h4, _⟩
  · have e : outs.length = 0 := by rw [← h.len, h2]; rfl
    exact .inl ⟨e, none, 0, h1⟩
  · refine .inr ⟨g, c, by rw [h1, h.len], h3, fun j hj => ⟨rowN rows j, by rw [Nat.zero_add]; exact h4 j (by rw [h.len]; exact hj), h.row j (by rw [h.len]; exact hj)⟩⟩
theorem OutAt.app {w w' : World} {B B2 : Nat} {v v' rv : Value} {rows : List Value} {outs : List (List Int)} {vs : List Int} (h : OutAt w B v rows outs) (hg : Grow w B2 rv vs) (hB : B ≤ B2) (hv : ∀ b, v.ownBlock = some b → b < B2) (ha : GrowR w' B v' (rows ++ [rv])) (hgr : w.grownBy w' v.ownBlock) (ho : v'.ownBlock = v.ownBlock ∨ v'.ownBlock = some w.heap.size) : OutAt w' B v' (rows ++ [rv]) (outs ++ [vs]) := by
  have hne : ∀ b, rv.ownBlock = some b → v.ownBlock ≠ some b := fun b hb e => by
    have q1 := (hg.lt b hb).1
    have q2 := hv b e
    omega
  have hlt : ∀ j, j < (rows ++ [rv]).length → ∀ b, (rowN (rows ++ [rv]) j).ownBlock = some b → b < w.heap.size ∧ v.ownBlock ≠ some b := by
    intro j hj b hb
    by_cases e : j < rows.length
    · rw [rowN_old e] at hb
      exact ⟨((h.row j e).lt b hb).2, h.apart j e b hb⟩
    · obtain rfl : j = rows.length := by simp at hj; omega
      rw [rowN_new] at hb
      exact ⟨(hg.lt b hb).2, hne b hb⟩
  have keep : ∀ b, b < w.heap.size → v.ownBlock ≠ some b → w'.heap[b]? = w.heap[b]? := fun b h1 h2 => hgr.block b h1 (fun e => h2 (by first | exact e.symm | exact e))
  refine ⟨ha, by simp [h.len], fun j hj => ?_, fun j hj b hb e => ?_⟩
  · by_cases e : j < rows.length
    · rw [rowN_old e, outN_old (by rw [← h.len]; exact e)]
      exact grow_keep (h.row j e) fun b hb => keep b ((h.row j e).lt b hb).2 (h.apart j e b hb)
    · obtain rfl : j = rows.length := by simp at hj; omega
      rw [rowN_new, h.len, outN_new]
      exact grow_mono (grow_keep hg fun b hb => keep b (hg.lt b hb).2 (hne b hb)) hB
  · obtain ⟨q1, q2⟩ := hlt j hj b hb
    rcases ho with o | o
    · rw [o] at e; exact q2 e
    · rw [o] at e; injection e with e; omega
/-- Where all periods are reckoned, so is this one. -/
theorem step_at {p : Pl} {seen frm : Int} {nl ni many k n : Nat} {fs : Nat → Int} {ks : Nat → Nat} {y y' : Int} {s s' : List Int} {o o' : List (List Int)} {yrs : List Am} (h1 : p.lns.length = nl) (hap : LApart p) (hd : DaysAre p.K p.A p.L frm many fs) (hy : YearsAre fs many ks) (hk : k < many) (h : Runs p seen frm nl ni k y s o) (hyr : YrsOf p.lns (ysums ks (2000 + (ks k : Int)) o nl k) nl yrs) (hf : Runs p seen frm nl ni n y' s' o') (hkn : k < n) : BindIs p.lns (knAt p (fs k) seen ni yrs) 0 0 ∧ ∃ vs, linesV p.lns (knAt p (fs k) seen ni yrs) nl = (vs, true) := by
  obtain ⟨y2, s2, kk, r, st, _⟩ := hf.pre_step hkn
  obtain ⟨rfl, rfl, rfl⟩ := Runs.det h1 hap h r
  have ek := Runs.year hd hy hk st
  subst ek
  obtain ⟨f, t, d, m, yrs', a1, a2, a3, a4, a5⟩ := st
  obtain ⟨t', b1⟩ := hd k hk
  obtain ⟨rfl, _, _⟩ := a1.unique b1
  obtain rfl := a3.unique h1 hap (h.yrs h1 hd hy hk hyr)
  exact ⟨a4, _, a5⟩
/-- What FreshOf answers. -/
def FreshQ (p : Pl) (frm to seen : Int) (nl ni : Nat) (rv : Value) (er : Int) (w' : World) : Prop :=
  (er ≠ 0 ∧ rv = .slice none 0 0 ∧ FreshX p frm to seen nl ni er) ∨
  (er = 0 ∧ PlanIs p 0 ∧ AskOk frm to seen ∧ to - frm < 60 ∧ ∃ (n : Nat) (y : Int) (s : List Int) (outs : List (List Int)) (g c B : Nat), frm + n = to + 1 ∧ Runs p seen frm nl ni n y s outs ∧ rv = .slice (some ⟨g, 0, none⟩) n c ∧ n ≤ c ∧ RowsAt w' g 0 n B outs)
set_option maxRecDepth 100000 in
set_option maxHeartbeats 8000000 in
theorem freshOf_ref (p : Pl) (al at' ai : Option Addr) (nl nt ni cl ct ci : Nat) (frm to seen : Int) (w : World) (hc : CameP w al at' ai p) (h1 : p.lns.length = nl) (h2 : p.tbs.length = nt) (h3 : p.ins.length = ni) (hto : to ≤ 9223372036854775807) :
    Calls Tryz.prog 14 #[.agg #[.int .i64 p.K, .int .i64 p.A, .int .i64 p.L, .slice al nl cl, .slice at' nt ct, .slice ai ni ci], .int .i64 frm, .int .i64 to, .int .i64 seen] w fun e w' => ∃ (rv : Value) (er : Int), e = .returned (.tuple #[rv, .int .i64 er]) ∧ FreshQ p frm to seen nl ni rv er w' ∧ Below w.heap.size w w' := by
  have HB0 := Lib.hid (kbelow_box w (.cells #[.int .i64 p.K, .int .i64 p.A, .int .i64 p.L, .slice al nl cl, .slice at' nt ct, .slice ai ni ci] 28))
  have HP0 := Lib.hid (PBox.made w p.K p.A p.L al at' ai nl nt ni cl ct ci)
  have HC := Lib.hid hc
  have H1 := Lib.hid h1
  have H2 := Lib.hid h2
  have H3 := Lib.hid h3
  clear hc h1 h2 h3
  obtain ⟨_, x0, x1, x2, x3, x4, x5⟩ := HP0.out
  go_enter Tryz.func14, Tryz.ntmps14
  go_wp2_with fail
  refine (checkPlan_ref p al at' ai nl nt ni cl ct ci _ (HC.out.below HB0.out) H1.out H2.out H3.out).mono ?_
  rintro e w1 ⟨e1, rfl, hp, hb1⟩
  have HB1 := Lib.hid (HB0.out.trans (hb1.mono HB0.out.size))
  have HP1 := Lib.hid (HP0.out.below hb1 HP0.out.1)
  clear hb1 HP0 HB0 x0 x1 x2 x3 x4 x5
  by_cases hz : e1 = 0
  · subst hz
    have HPL := Lib.hid hp
    clear hp
    by_cases hask : AskOk frm to seen
    · obtain ⟨hsd, hf0, hft⟩ := hask
      have HAK : Hid (AskOk frm to seen) := ⟨hsd, hf0, hft⟩
      have hfB : decide (frm < 0) = false := decide_eq_false (by omega)
      have htB : decide (to < frm) = false := decide_eq_false (by omega)
      have i0 : IntKind.i64.wrap (to - frm) = to - frm := IntWalk.i64_in _ (by omega)
      by_cases h60 : 60 ≤ to - frm
      · go_wp2_with (first | (go_at_call 17; refine (Cal.isDay_ref _ _).mono ?_; rintro e w' ⟨rfl, h'⟩; subst w'; rw [hsd]))
        refine bodyPost_ret (v := .tuple #[(.slice none 0 0), .int .i64 2]) (by simp [results, Tryz.results14, go_sem] <;> rfl) rfl ?_
        exact ⟨_, _, rfl, .inl ⟨by omega, rfl, .inr (.inr (.inl ⟨HPL.out, HAK.out, h60, rfl⟩))⟩, HB1.out⟩
      · have h60B : decide (60 ≤ to - frm) = false := decide_eq_false h60
        obtain ⟨_, x0, x1, x2, x3, x4, x5⟩ := HP1.out
        go_wp2_with (first | (go_at_call 17; refine (Cal.isDay_ref _ _).mono ?_; rintro e w' ⟨rfl, h'⟩; subst w'; rw [hsd]))
        refine (Cal.periodAt_ref p.K p.A p.L to _).mono ?_
        rintro e w2 ⟨f2, t2, e2, rfl, hat2, hb2⟩
        have HB2 := Lib.hid (HB1.out.trans (hb2.mono HB1.out.size))
        have HP2 := Lib.hid (HP1.out.below hb2 HP1.out.1)
        clear hb2 HP1 HB1 x0 x1 x2 x3 x4 x5
        by_cases he2 : e2 = 0
        · subst he2
          obtain ⟨n, hn⟩ : ∃ n : Nat, frm + n = to + 1 := ⟨(to - frm + 1).toNat, by omega⟩
          have hnI : to - frm + 1 = (n : Int) := by omega
          have hn1 : 1 ≤ n := by omega
          have hn60 : n ≤ 60 := by omega
          obtain ⟨fs, hfs⟩ := days_all hf0 hn hat2
          obtain ⟨ks, hks⟩ := years_all hfs
          have HFS := Lib.hid hfs
          have HKS := Lib.hid hks
          have i1 : IntKind.i64.wrap (to - frm + 1) = (n : Int) := by rw [hnI]; exact IntWalk.i64_in _ (by omega)
          clear hat2 hfs hks
          obtain ⟨_, x0, x1, x2, x3, x4, x5⟩ := HP2.out
          go_wp2_with fail
          refine (begins_list p.K p.A p.L frm n fs w2 hn60 hn1 HFS.out).mono ?_
          rintro e w3 ⟨rv3, rfl, hg3, hb3⟩
          obtain ⟨gf, cf, rfl, hgf, hof⟩ := hg3.own (by rw [daysL_len]; omega)
          have HB3 := Lib.hid (HB2.out.trans (hb3.mono HB2.out.size))
          have HP3 := Lib.hid (HP2.out.below hb3 HP2.out.1)
          have HOF := Lib.hid hof
          have hgf3 : gf < w3.heap.size := hof.1
          have hw3 : w.heap.size < w3.heap.size := HP3.out.1
          have hdl : (daysL fs n).length = n := daysL_len fs n
          rw [hdl]
          clear hg3 hb3 hof hdl x0 x1 x2 x3 x4 x5 HP2 HB2
          have hnl : nl ≤ 30 := by have := HPL.out.small.1; have := H1.out; omega
          have hni : ni ≤ 30 := by have := HPL.out.small.2; have := H3.out; omega
          go_wp2_with fail
          go_loopw [11, 13] (fun v i wr => ∃ (k : Nat) (y : Int) (s : List Int) (outs : List (List Int)) (rows : List Value), k ≤ n ∧ i = .int .i64 k ∧ Runs p seen frm nl ni k y s outs ∧ OutAt wr w3.heap.size v rows outs ∧ Below w3.heap.size w3 wr) (fun _ i _ => n - (intOf i).toNat)
          case atStart => exact ⟨0, _, _, _, _, Nat.zero_le _, rfl, .zero, OutAt.nil _ _, Below.refl _ _⟩
          case round =>
            obtain ⟨k, y, s, outs, rows, hk, rfl, hrun, hout, hb⟩ := hrel
            have HRN := Lib.hid hrun
            have HOUT := Lib.hid hout
            have HB := Lib.hid hb
            have HBW := Lib.hid (HB3.out.trans (hb.mono HB3.out.size))
            have HP := Lib.hid (HP3.out.below hb (by omega))
            have hol : outs.length = k := hrun.len
            have hdn := hout.done
            rw [hol] at hdn
            obtain ⟨xo, co, rfl⟩ := hdn.shape
            have HDN := Lib.hid hdn
            clear hrun hout hb hdn
            obtain ⟨_, x0, x1, x2, x3, x4, x5⟩ := HP.out
            by_cases hlt : k < n
            · have hlt' : (k : Int) < (n : Int) := by omega
              have xf := (HB.out.cell (p := ⟨gf, k, none⟩) hgf3).trans (HOF.out.cell (j := k) (by rw [daysL_len]; exact hlt))
              rw [daysL_at fs hlt] at xf
              obtain ⟨mm, d, hciv⟩ := HKS.out k hlt
              obtain ⟨tk, hatk⟩ := HFS.out k hlt
              have HCI := Lib.hid hciv
              have HAT := Lib.hid hatk
              have HATF : Hid (∀ W', Below wr.heap.size wr W' → At W' gf 0 (daysL fs n)) := Lib.hid (fun W' hb' => (own_blk HOF.out ((HB.out.trans (hb'.mono HB.out.size)).block gf hgf3) (HB.out.trans (hb'.mono HB.out.size)).size).at)
              have HYB : Hid (∀ W', Below wr.heap.size wr W' → Calls Tryz.prog 39 #[.agg #[.int .i64 p.K, .int .i64 p.A, .int .i64 p.L, .slice al nl cl, .slice at' nt ct, .slice ai ni ci], .slice (some ⟨gf, 0, none⟩) n cf, .slice xo k co, .int .i64 (2000 + (ks k : Int))] W' fun e w' => ∃ (rv : Value) (ok : Bool), e = .returned (.tuple #[rv, .bool ok]) ∧ ((ok = false ∧ rv = .slice none 0 0 ∧ ∃ i, i < nl ∧ monB (ysum ks (2000 + (ks k : Int)) outs i k) = false) ∨ (ok = true ∧ (∀ i, i < nl → monB (ysum ks (2000 + (ks k : Int)) outs i k) = true) ∧ ∃ x c yrs, rv = .slice x yrs.length c ∧ CameA w' x yrs ∧ YrsOf p.lns (ysums ks (2000 + (ks k : Int)) outs nl k) nl yrs)) ∧ Below W'.heap.size W' w') := Lib.hid (fun W' hb' => yearsBy_ref p al at' ai nl nt ni cl ct ci gf cf n k w3.heap.size fs ks (.slice xo k co) outs (2000 + (ks k : Int)) W' (HC.out.l.below (HBW.out.trans (hb'.mono HBW.out.size))) H1.out hnl HPL.out.apart (HATF.out W' hb') (by omega) (by omega) (fun j hj => HKS.out j (by omega)) (HDN.out.below hb') (fun j hj => HRN.out.mon H1.out hj))
              have hfd := date_yr (.int .i64 (2000 + (ks k : Int))) (.int .i64 mm) (.int .i64 d)
              clear hciv hatk
              go_wp2_with fail
              go_region_held_law (fun w' => w'.cell? ⟨w.heap.size, 0, none⟩ = some (.int .i64 p.K) ∧ w'.cell? ⟨w.heap.size, 1, none⟩ = some (.int .i64 p.A) ∧ w'.cell? ⟨w.heap.size, 2, none⟩ = some (.int .i64 p.L) ∧ w'.cell? ⟨w.heap.size, 3, none⟩ = some (.slice al nl cl) ∧ w'.cell? ⟨w.heap.size, 4, none⟩ = some (.slice at' nt ct) ∧ w'.cell? ⟨w.heap.size, 5, none⟩ = some (.slice ai ni ci) ∧ w'.cell? ⟨gf, k, none⟩ = some (.int .i64 (fs k))) (go_keep)
                (first
                  | (go_at_call 27; refine (civil_be HCI.out _).mono ?_; rintro e w4 ⟨rfl, hb4⟩
                     have HB4' := Lib.hid (nfrom_drew hb4)
                     have r0 := (HB4'.out.cell (p := ⟨w.heap.size, 0, none⟩) (blt_of_cell x0)).trans x0
                     have r1 := (HB4'.out.cell (p := ⟨w.heap.size, 1, none⟩) (blt_of_cell x1)).trans x1
                     have r2 := (HB4'.out.cell (p := ⟨w.heap.size, 2, none⟩) (blt_of_cell x2)).trans x2
                     have r3 := (HB4'.out.cell (p := ⟨w.heap.size, 3, none⟩) (blt_of_cell x3)).trans x3
                     have r4 := (HB4'.out.cell (p := ⟨w.heap.size, 4, none⟩) (blt_of_cell x4)).trans x4
                     have r5 := (HB4'.out.cell (p := ⟨w.heap.size, 5, none⟩) (blt_of_cell x5)).trans x5
                     have r6 := (HB4'.out.cell (p := ⟨gf, k, none⟩) (blt_of_cell xf)).trans xf
                     clear hb4)
                  | (go_at_call 39; refine (HYB.out _ HB4'.out).mono ?_; rintro e w5 ⟨yv, ok, rfl, hyb, hb5⟩
                     have HYR := Lib.hid hyb
                     have HB5' := Lib.hid (HB4'.out.trans (hb5.mono HB4'.out.size))
                     have s0 := (HB5'.out.cell (p := ⟨w.heap.size, 0, none⟩) (blt_of_cell x0)).trans x0
                     have s1 := (HB5'.out.cell (p := ⟨w.heap.size, 1, none⟩) (blt_of_cell x1)).trans x1
                     have s2 := (HB5'.out.cell (p := ⟨w.heap.size, 2, none⟩) (blt_of_cell x2)).trans x2
                     have s3 := (HB5'.out.cell (p := ⟨w.heap.size, 3, none⟩) (blt_of_cell x3)).trans x3
                     have s4 := (HB5'.out.cell (p := ⟨w.heap.size, 4, none⟩) (blt_of_cell x4)).trans x4
                     have s5 := (HB5'.out.cell (p := ⟨w.heap.size, 5, none⟩) (blt_of_cell x5)).trans x5
                     have s6 := (HB5'.out.cell (p := ⟨gf, k, none⟩) (blt_of_cell xf)).trans xf
                     clear hyb hb5))
              have HBE := Lib.hid (HBW.out.trans (HB5'.out.mono HBW.out.size))
              have HO5 := Lib.hid (HOUT.out.below HB5'.out)
              clear r0 r1 r2 r3 r4 r5 r6 x0 x1 x2 x3 x4 x5 xf HYB
              rcases HYR.out with ⟨rfl, rfl, i, hi, hmf⟩ | ⟨rfl, hmt, xy, cy, yrs, rfl, hcy, hyr⟩
              · have HNR : Hid (∀ (n : Nat) (y : Int) (s : List Int) (o : List (List Int)), frm + n = to + 1 → ¬ Runs p seen frm nl ni n y s o) := Lib.hid (fun n' y' s' o' hn' hr' => by
                  obtain rfl : n = n' := by omega
                  obtain ⟨y2, s2, kk, r, st, _⟩ := hr'.pre_step hlt
                  obtain ⟨rfl, rfl, rfl⟩ := Runs.det H1.out HPL.out.apart HRN.out r
                  have := step_money H1.out HFS.out HKS.out hlt r st i hi
                  rw [hmf] at this
                  cases this)
                clear s0 s1 s2 s3 s4 s5 s6
                go_wp2_with fail
                refine bodyPost_ret (v := .tuple #[(.slice none 0 0), .int .i64 3]) (by simp [results, Tryz.results14, go_sem] <;> rfl) rfl ?_
                exact ⟨_, _, rfl, .inl ⟨by omega, rfl, .inr (.inr (.inr ⟨HPL.out, HAK.out, by omega, rfl, HNR.out⟩))⟩, HBE.out⟩
              · have HYO := Lib.hid hyr
                have HCY := Lib.hid hcy
                have hyl : yrs.length ≤ 30 := by have := hyr.1.length_eq; have := yrsK_len p.lns (ysums ks (2000 + (ks k : Int)) outs nl k) nl; omega
                have HYF : Hid (NamesFit yrs) := Lib.hid (fun j hj => yrs_fit (HC.out.l.below HBW.out) H1.out (ysums ks (2000 + (ks k : Int)) outs nl k) nl (Nat.le_refl _) _ (hyr.1.mem_iff.1 (anth_mem hj)))
                have HINP : Hid (∀ W', Below w5.heap.size w5 W' → Calls Tryz.prog 41 #[.agg #[.int .i64 p.K, .int .i64 p.A, .int .i64 p.L, .slice al nl cl, .slice at' nt ct, .slice ai ni ci], .int .i64 (fs k), .int .i64 seen] W' fun e w' => ∃ x c, e = .returned (.slice x ni c) ∧ CameA w' x (insAt p (fs k) seen ni) ∧ Below W'.heap.size W' w') := Lib.hid (fun W' hb' => inputsAt_ref p al at' ai nl nt ni cl ct ci (fs k) seen W' (HC.out.i.below (HBE.out.trans (hb'.mono HBE.out.size))) H3.out hni (fun j hj => HPL.out.hist j (by have := H3.out; omega)) (at_day HAT.out).1 HAK.out.1)
                have HVL : Hid (∀ W' xi cin, Below w5.heap.size w5 W' → CameA W' xi (insAt p (fs k) seen ni) → Calls Tryz.prog 40 #[.slice al nl cl, .agg #[.slice xi ni cin, .slice at' nt ct, .slice xy yrs.length cy]] W' fun e w' => linesR p.lns (knAt p (fs k) seen ni yrs) W' e w') := Lib.hid (fun W' xi cin hb' hxi => by
                  have hbb := HBE.out.trans (hb'.mono HBE.out.size)
                  exact valueLines_ref al nl cl p.lns xi at' xy ni nt yrs.length cin ct cy (knAt p (fs k) seen ni yrs) W' (HC.out.l.below hbb) H1.out (by unfold maxLen; omega) ⟨hxi, HC.out.t.below hbb, HCY.out.below hb', inAms_fit HC.out.i _ _ (by rw [H3.out]; exact Nat.le_refl _), HYF.out, by unfold knAt insAt; rw [inAms_len]; unfold maxLen; omega, HC.out.mt, by show yrs.length ≤ maxLen; unfold maxLen; omega⟩ (by unfold knAt insAt; rw [inAms_len]) H2.out rfl)
                clear hmt hcy hyr hfd
                go_wp2_with fail
                go_region_held_law (fun w' => w'.cell? ⟨w.heap.size, 0, none⟩ = some (.int .i64 p.K) ∧ w'.cell? ⟨w.heap.size, 1, none⟩ = some (.int .i64 p.A) ∧ w'.cell? ⟨w.heap.size, 2, none⟩ = some (.int .i64 p.L) ∧ w'.cell? ⟨w.heap.size, 3, none⟩ = some (.slice al nl cl) ∧ w'.cell? ⟨w.heap.size, 4, none⟩ = some (.slice at' nt ct) ∧ w'.cell? ⟨w.heap.size, 5, none⟩ = some (.slice ai ni ci) ∧ w'.cell? ⟨gf, k, none⟩ = some (.int .i64 (fs k))) (go_keep)
                  (first
                    | (go_at_call 41; refine (HINP.out _ (kbelow_dN (Below.refl _ _) 1)).mono ?_; rintro e w6 ⟨xi, cin, rfl, hci, hb6⟩
                       have HB6' := Lib.hid (nfrom_drew hb6)
                       have HCI6 := Lib.hid hci
                       have r0 := (HB6'.out.cell (p := ⟨w.heap.size, 0, none⟩) (blt_of_cell s0)).trans s0
                       have r1 := (HB6'.out.cell (p := ⟨w.heap.size, 1, none⟩) (blt_of_cell s1)).trans s1
                       have r2 := (HB6'.out.cell (p := ⟨w.heap.size, 2, none⟩) (blt_of_cell s2)).trans s2
                       have r3 := (HB6'.out.cell (p := ⟨w.heap.size, 3, none⟩) (blt_of_cell s3)).trans s3
                       have r4 := (HB6'.out.cell (p := ⟨w.heap.size, 4, none⟩) (blt_of_cell s4)).trans s4
                       have r5 := (HB6'.out.cell (p := ⟨w.heap.size, 5, none⟩) (blt_of_cell s5)).trans s5
                       have r6 := (HB6'.out.cell (p := ⟨gf, k, none⟩) (blt_of_cell s6)).trans s6
                       clear hb6 hci)
                    | (go_at_call 40; refine (HVL.out _ xi cin HB6'.out HCI6.out).mono ?_; intro e w7 h7; obtain ⟨rv, i7, e7, rfl, hlr, hb7⟩ := linesR_one h7
                       have HLR := Lib.hid hlr
                       have HB7' := Lib.hid (HB6'.out.trans (hb7.mono HB6'.out.size))
                       have hs67 : w5.heap.size ≤ w6.heap.size := HB6'.out.size
                       have q0 := (HB7'.out.cell (p := ⟨w.heap.size, 0, none⟩) (blt_of_cell s0)).trans s0
                       have q1 := (HB7'.out.cell (p := ⟨w.heap.size, 1, none⟩) (blt_of_cell s1)).trans s1
                       have q2 := (HB7'.out.cell (p := ⟨w.heap.size, 2, none⟩) (blt_of_cell s2)).trans s2
                       have q3 := (HB7'.out.cell (p := ⟨w.heap.size, 3, none⟩) (blt_of_cell s3)).trans s3
                       have q4 := (HB7'.out.cell (p := ⟨w.heap.size, 4, none⟩) (blt_of_cell s4)).trans s4
                       have q5 := (HB7'.out.cell (p := ⟨w.heap.size, 5, none⟩) (blt_of_cell s5)).trans s5
                       have q6 := (HB7'.out.cell (p := ⟨gf, k, none⟩) (blt_of_cell s6)).trans s6
                       clear h7 hlr hb7))
                have HBG := Lib.hid (HBE.out.trans (HB7'.out.mono HBE.out.size))
                have HO7 := Lib.hid (HO5.out.below HB7'.out)
                have HBR := Lib.hid (HB.out.trans ((HB5'.out.trans (HB7'.out.mono HB5'.out.size)).mono HB.out.size))
                clear r0 r1 r2 r3 r4 r5 r6 s0 s1 s2 s3 s4 s5 s6 q0 q1 q2 q3 q4 q5 q6 HINP HVL
                rcases HLR.out with ⟨h0, rfl, hbi⟩ | ⟨h0, hbi, vs, Bv, hlv, hBv, hgv⟩
                · have h3 : e7 = 3 := by
                    rcases hbi with hbi | ⟨_, h, _⟩
                    · exact bind_err HPL.out H1.out H3.out (HRN.out.yrs H1.out HFS.out HKS.out hlt HYO.out) hbi h0
                    · exact h
                  subst h3
                  have HNR : Hid (∀ (n : Nat) (y : Int) (s : List Int) (o : List (List Int)), frm + n = to + 1 → ¬ Runs p seen frm nl ni n y s o) := Lib.hid (fun n' y' s' o' hn' hr' => by
                    obtain ⟨b1, vs', b2⟩ := step_at H1.out HPL.out.apart HFS.out HKS.out hlt HRN.out HYO.out hr' (by omega)
                    rcases hbi with hbi | ⟨_, _, vs, hv⟩
                    · exact h0 (hbi.unique b1).2
                    · rw [H1.out, b2] at hv
                      cases (Prod.mk.inj hv).2)
                  clear hbi h0
                  go_wp2_with fail
                  refine bodyPost_ret (v := .tuple #[(.slice none 0 0), .int .i64 3]) (by simp [results, Tryz.results14, go_sem] <;> rfl) rfl ?_
                  exact ⟨_, _, rfl, .inl ⟨by omega, rfl, .inr (.inr (.inr ⟨HPL.out, HAK.out, by omega, rfl, HNR.out⟩))⟩, HBG.out⟩
                · subst h0
                  rw [H1.out] at hlv
                  have HST : Hid (Runs p seen frm nl ni (k + 1) (2000 + (ks k : Int)) (addK (sumsAt y (ks k) nl s) vs nl) (outs ++ [vs])) := Lib.hid (.succ HRN.out HAT.out HCI.out (HRN.out.yrs H1.out HFS.out HKS.out hlt HYO.out) hbi hlv)
                  have HGV := Lib.hid hgv
                  obtain ⟨ra, rc, rfl⟩ := hgv.shape
                  clear hbi hlv hgv
                  have hBv3 : w3.heap.size ≤ Bv := by have := HBR.out.size; have := HB.out.size; have := HB5'.out.size; omega
                  have HVB : Hid (∀ b, (Value.slice xo k co).ownBlock = some b → b < Bv) := Lib.hid (fun b hb => by have q := (HOUT.out.g.lt b hb).2; have := HB5'.out.size; omega)
                  have HBX := Lib.hid (kbelow_box w7 (.cells #[.slice ra vs.length rc] 53))
                  have HOX := Lib.hid (HO7.out.below HBX.out)
                  have HGX := Lib.hid (tgrow_below HGV.out HBX.out)
                  have HBY := Lib.hid (HBR.out.trans (HBX.out.mono HBR.out.size))
                  have hrl : rows.length ≤ 1000 := by have := HOUT.out.len; omega
                  go_wp2_with (at_builtin; refine wpList_app_row _ rfl _ _ rfl w3.heap.size _ rows rfl HOX.out.g w7.heap.size 1 (.slice ra vs.length rc) rfl rfl (by simp) hrl HBY.out.size ?_; intro v9 w9 hg9 hgr9 hb9 ho9; refine Hid.out ?_)
                  have HO9 := Lib.hid (HOX.out.app HGX.out hBv3 HVB.out hg9 hgr9 ho9)
                  have HB9 := Lib.hid (HBY.out.trans hb9)
                  clear hg9 hgr9 hb9 ho9
                  unfold Hid
                  go_wp2_with fail
                  go_roundw
                  case rel => exact ⟨k + 1, _, _, _, _, by omega, by go_num, HST.out, HO9.out, HB9.out⟩
                  case measure => simp [intOf]; omega
            · obtain rfl : k = n := by omega
              have hltB : decide ((k : Int) < (k : Int)) = false := decide_eq_false (by omega)
              obtain ⟨g, c, hv, hrw⟩ : ∃ g c, Value.slice xo k co = .slice (some ⟨g, 0, none⟩) k c ∧ RowsAt wr g 0 k w3.heap.size outs := by
                rcases HDN.out with ⟨h, _⟩ | h
                · omega
                · exact h
              injection hv with hv1 _ hv3
              subst hv1 hv3
              have HRW := Lib.hid hrw
              have hcap : k ≤ co := by
                rcases HOUT.out.g.form with ⟨h, _⟩ | ⟨g', c', h, _, _, _, h5⟩
                · cases h
                · injection h with _ h2 h3
                  omega
              clear hrw x0 x1 x2 x3 x4 x5
              go_wp2_with fail
              refine bodyPost_ret (v := .tuple #[(.slice (some ⟨g, 0, none⟩) k co), .int .i64 0]) (by simp [results, Tryz.results14, go_sem] <;> rfl) rfl ?_
              exact ⟨_, _, rfl, .inr ⟨rfl, HPL.out, HAK.out, by omega, k, y, s, outs, g, co, w3.heap.size, hn, HRN.out, rfl, hcap, HRW.out⟩, HBW.out⟩
        · have HNR : Hid (∀ (n : Nat) (y : Int) (s : List Int) (o : List (List Int)), frm + n = to + 1 → ¬ Runs p seen frm nl ni n y s o) := Lib.hid (fun n y s o hn hr => by
            obtain ⟨f, t, q⟩ := hr.at (j := n - 1) (by omega)
            rw [show frm + ((n - 1 : Nat) : Int) = to by omega] at q
            exact he2 (hat2.unique q).2.2)
          have heB : (e2 != 0) = true := by simp [he2]
          clear hat2 he2
          go_wp2_with fail
          refine bodyPost_ret (v := .tuple #[(.slice none 0 0), .int .i64 3]) (by simp [results, Tryz.results14, go_sem] <;> rfl) rfl ?_
          exact ⟨_, _, rfl, .inl ⟨by omega, rfl, .inr (.inr (.inr ⟨HPL.out, HAK.out, by omega, rfl, HNR.out⟩))⟩, HB2.out⟩
    · have HNA := Lib.hid hask
      have HRX : Hid (FreshX p frm to seen nl ni 3) := Lib.hid (.inr (.inl ⟨HPL.out, hask, rfl⟩))
      by_cases hsd : Cal.dayB seen = true
      · by_cases hf : frm < 0
        · have hfB : decide (frm < 0) = true := decide_eq_true hf
          go_wp2_with (first | (go_at_call 17; refine (Cal.isDay_ref _ _).mono ?_; rintro e w' ⟨rfl, h'⟩; subst w'; rw [hsd]))
          refine bodyPost_ret (v := .tuple #[(.slice none 0 0), .int .i64 3]) (by simp [results, Tryz.results14, go_sem] <;> rfl) rfl ?_
          exact ⟨_, _, rfl, .inl ⟨by omega, rfl, HRX.out⟩, HB1.out⟩
        · have hfB : decide (frm < 0) = false := decide_eq_false hf
          have ht : to < frm := by
            rcases Int.lt_or_le to frm with q | q
            · exact q
            · exact absurd ⟨hsd, by omega, q⟩ hask
          have htB : decide (to < frm) = true := decide_eq_true ht
          go_wp2_with (first | (go_at_call 17; refine (Cal.isDay_ref _ _).mono ?_; rintro e w' ⟨rfl, h'⟩; subst w'; rw [hsd]))
          refine bodyPost_ret (v := .tuple #[(.slice none 0 0), .int .i64 3]) (by simp [results, Tryz.results14, go_sem] <;> rfl) rfl ?_
          exact ⟨_, _, rfl, .inl ⟨by omega, rfl, HRX.out⟩, HB1.out⟩
      · have hsd : Cal.dayB seen = false := by simpa using hsd
        go_wp2_with (first | (go_at_call 17; refine (Cal.isDay_ref _ _).mono ?_; rintro e w' ⟨rfl, h'⟩; subst w'; rw [hsd]))
        refine bodyPost_ret (v := .tuple #[(.slice none 0 0), .int .i64 3]) (by simp [results, Tryz.results14, go_sem] <;> rfl) rfl ?_
        exact ⟨_, _, rfl, .inl ⟨by omega, rfl, HRX.out⟩, HB1.out⟩
  · have hzB : (e1 != 0) = true := by simp [hz]
    have HNE := Lib.hid hz
    have HPE := Lib.hid hp
    clear hz hp
    go_wp2_with fail
    refine bodyPost_ret (v := .tuple #[(.slice none 0 0), .int .i64 e1]) (by simp [results, Tryz.results14, go_sem] <;> rfl) rfl ?_
    exact ⟨_, _, rfl, .inl ⟨HNE.out, rfl, .inl ⟨HPE.out, HNE.out⟩⟩, HB1.out⟩
end Go.Proofs.YtonceehdmnkffaaGreatDoor
