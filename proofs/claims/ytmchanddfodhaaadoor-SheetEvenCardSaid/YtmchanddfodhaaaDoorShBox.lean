/-
  Promise U3: what a box is, as a list of bytes; the walk of Box.
-/
import Derived.Test.YtmchanddfodhaaaDoorShBxR
namespace Go.Proofs.YtmchanddfodhaaaDoor
open Go.RowKit Go.Shelf Mny

def wideK (l : List ByteArray) : Nat → Nat
  | 0 => 0
  | k + 1 => max (wideK l k) (lets (snt l k))
def edgeL (wd : Nat) : List UInt8 := [43, 45] ++ List.replicate wd 45 ++ [45, 43, 10]
def rowL (s : ByteArray) (wd : Nat) : List UInt8 := [124, 32] ++ shownL s ++ List.replicate (wd - lets s) 32 ++ [32, 124, 10]
def rowsL (l : List ByteArray) (wd : Nat) : Nat → List UInt8
  | 0 => []
  | k + 1 => rowsL l wd k ++ rowL (snt l k) wd
def boxL (l : List ByteArray) (n : Nat) : List UInt8 := edgeL (wideK l n) ++ rowsL l (wideK l n) n ++ edgeL (wideK l n)
def boxT (l : List ByteArray) (n : Nat) : ByteArray := if boxE l n = 0 then ⟨(boxL l n).toArray⟩ else nilT
theorem boxT_bad {l : List ByteArray} {n : Nat} (h : boxE l n ≠ 0) : boxT l n = nilT := by unfold boxT; rw [if_neg h]
theorem boxT_ok {l : List ByteArray} {n : Nat} (h : boxE l n = 0) : boxT l n = ⟨(boxL l n).toArray⟩ := by unfold boxT; rw [if_pos h]
theorem wideK_le {l : List ByteArray} : ∀ {k : Nat}, (∀ j, j < k → (snt l j).size ≤ 200) → wideK l k ≤ 200
  | 0, _ => by simp [wideK]
  | k + 1, h => by
    have h1 := wideK_le (l := l) (k := k) fun j hj => h j (by omega)
    have h2 := (shown_len (snt l k)).2
    have h3 := h k (by omega)
    rw [wideK]
    omega
theorem wideK_mono {l : List ByteArray} : ∀ {n k : Nat}, k < n → lets (snt l k) ≤ wideK l n
  | 0, k, h => by omega
  | n + 1, k, h => by
    rw [wideK]
    by_cases e : k = n
    · subst e; omega
    · have := wideK_mono (l := l) (n := n) (k := k) (by omega); omega
theorem edgeL_len (wd : Nat) : (edgeL wd).length = wd + 5 := by simp [edgeL]
theorem rowL_len {s : ByteArray} {wd : Nat} (h : lets s ≤ wd) : (rowL s wd).length ≤ s.size + wd + 5 := by
  simp only [rowL, List.length_append, List.length_replicate, (shown_len s).1, List.length_cons, List.length_nil]
  omega
theorem rowsL_len {l : List ByteArray} {wd : Nat} : ∀ {k : Nat}, (∀ j, j < k → (snt l j).size ≤ 200 ∧ lets (snt l j) ≤ wd) → wd ≤ 200 → (rowsL l wd k).length ≤ k * 405
  | 0, _, _ => by simp [rowsL]
  | k + 1, h, hw => by
    have h1 := rowsL_len (l := l) (wd := wd) (k := k) (fun j hj => h j (by omega)) hw
    have h2 := rowL_len (h k (by omega)).2
    have h3 := (h k (by omega)).1
    rw [rowsL, List.length_append]
    omega
/-- Many of one byte. -/
def repT (c : UInt8) (r : Nat) : ByteArray := ⟨(List.replicate r c).toArray⟩
theorem repT_list (c : UInt8) (r : Nat) : (repT c r).data.toList = List.replicate r c := by simp [repT]
theorem repT_size (c : UInt8) (r : Nat) : (repT c r).size = r := by rw [size_toList, repT_list, List.length_replicate]
theorem rep_any (c : UInt8) (r : Nat) (w : World) (hr : r ≤ 200) : Calls Tryd.prog 21 #[.string ⟨#[c]⟩, .int .i64 (r : Int)] w fun e w' => e = .returned (.string (repT c r)) ∧ Below w.heap.size w w' := by
  refine (sh_strings_Repeat ⟨#[c]⟩ r w (by omega) (by show 1 * r ≤ _; omega)).mono ?_
  rintro e w' ⟨rfl, hb⟩
  refine ⟨?_, hb⟩
  rw [show Lib.repeatL (⟨#[c]⟩ : ByteArray).data.toList r = List.replicate r c from repeatL_one c r]
  rfl
theorem count_any (s : ByteArray) (w : World) (_ : s.size ≤ 200) : Calls Tryd.prog 30 #[.string (shownT s)] w fun e w' => e = .returned (.int .i64 (lets s : Int)) ∧ Below w.heap.size w w' := by
  refine (sh_utf8_RuneCountInString (shownT s) w (by rw [shownT_size]; omega)).mono ?_
  rintro e w' ⟨rfl, pos, rfl⟩
  rw [runeCount_shown]
  exact ⟨rfl, iter_below _ _ _⟩
/-- Texts of the call's own, that others are appended to. -/
def rowsK (l : List ByteArray) : Nat → List ByteArray
  | 0 => []
  | k + 1 => rowsK l k ++ [shownT (snt l k)]
theorem rowsK_len (l : List ByteArray) : ∀ k, (rowsK l k).length = k
  | 0 => rfl
  | k + 1 => by simp [rowsK, rowsK_len l k]
theorem rowsK_at (l : List ByteArray) : ∀ (k j : Nat), j < k → (rowsK l k)[j]? = some (shownT (snt l j))
  | 0, j, h => by omega
  | k + 1, j, h => by
    by_cases e : j = k
    · subst e; simp [rowsK, rowsK_len]
    · rw [rowsK, List.getElem?_append_left (by rw [rowsK_len]; omega)]
      exact rowsK_at l k j (by omega)
def GrowT (w : World) (B : Nat) (v : Value) (l : List ByteArray) : Prop := w.ownsRow B 9 1 v l.length (l.map Value.string)
theorem GrowT.nil (w : World) (B : Nat) : GrowT w B (.slice none 0 0) [] := World.ownsRow_nil _ _ _ _
theorem GrowT.below {w w' : World} {B : Nat} {v : Value} {l : List ByteArray} (h : GrowT w B v l) (hb : Go.RowKit.Below w.heap.size w w') : GrowT w' B v l := by
  have hg : w.grownBy w' (none : Option Nat) := ⟨hb.os, hb.tape, hb.output, hb.size, fun k hk _ => hb.block k hk⟩
  refine World.ownsRow.kept h hg ?_
  cases v.ownBlock with
  | none => exact .inl rfl
  | some k => exact .inr (Option.some_ne_none k)
theorem GrowT.open {w : World} {B : Nat} {v : Value} {l : List ByteArray} (h : GrowT w B v l) : ∃ x c, v = .slice x l.length c ∧ (0 < l.length → ∃ g, x = some ⟨g, 0, none⟩ ∧ g < w.heap.size ∧ ∀ j t, l[j]? = some t → w.cell? ⟨g, j, none⟩ = some (.string t)) := by
  have hh := h
  rcases h.2 with ⟨h1, h2⟩ | ⟨g, c, cur, h1, h2, hgc, h4, _⟩
  · exact ⟨none, 0, by rw [h1, h2], fun h0 => by omega⟩
  · subst h1
    refine ⟨_, c, rfl, fun _ => ⟨g, rfl, (Array.getElem?_eq_some_iff.1 hgc).1, fun j t ht => ?_⟩⟩
    have := World.ownsRow.cells hh (g := g) rfl j (.string t) (by rw [List.getElem?_map, ht]; rfl)
    rwa [Addr.add_lit, Nat.zero_add] at this
theorem info_st : (Tryd.prog.info? 9).map (fun i => (i.zero, i.size, i.bytes)) = some (some (.string ⟨#[]⟩), 1, 16) := by kernel_rfl
theorem run_app_one (w : World) (ty : TypeId) (B : Nat) (v : Value) (l : List ByteArray) (hown : GrowT w B v l) (b : Nat) (t : ByteArray) (hsrc : w.cell? ⟨b, 0, none⟩ = some (.string t))
    (hb : l.length ≤ 1000) (hB : B ≤ w.heap.size) :
    ∃ v' w', (Builtin.append_ #[35, 35] ty #[v, .slice (some ⟨b, 0, none⟩) 1 1]).run Tryd.prog w = .ok v' w' ∧ (GrowT w' B v' (l ++ [t]) ∧ Go.RowKit.Below B w w') := by
  obtain ⟨i0, hi, hz0, hz1, hz2⟩ := info_parts info_st
  have hnews : ∀ j u, ([Value.string t])[j]? = some u → w.cell? ((⟨b, 0, none⟩ : Addr).add j) = some u := by
    intro j u hu
    match j, hu with
    | 0, hu =>
      simp at hu
      subst hu
      rw [Addr.add_lit]
      exact hsrc
    | j + 1, hu => simp at hu
  obtain ⟨v', w', hr, h2, h3, _, h5⟩ := run_append_own_at (P := Tryd.prog) w B 35 ty 9 i0 _ 1 16 Tryd.underlying35 hi hz0 hz1 hz2 rfl (by decide) v l.length (l.map Value.string) hown ⟨b, 0, none⟩ 1 1 [Value.string t] rfl hnews (by intro u hu; simp at hu; subst hu; rfl) (by unfold maxLen; omega) (by omega) hB
  refine ⟨v', w', hr, ?_, (Below.refl B w).grown h3 hB fun k hk => (World.ownsRow.lt hown k hk).1⟩
  unfold GrowT
  rw [List.length_append, List.map_append]
  exact h2
set_option maxRecDepth 100000 in
set_option maxHeartbeats 4000000 in
theorem Box_any (a : Option Addr) (n cap : Nat) (l : List ByteArray) (w : World) (hc : CameT w a l) (hf : TextsFit l) (hn : l.length = n) (hm : n ≤ maxLen) :
    Calls Tryd.prog 14 #[.slice a n cap] w fun e w' => e = .returned (.tuple #[.string (boxT l n), .int .i64 (boxE l n)]) ∧ Below w.heap.size w w' := by
  have HCK := Lib.hid (checkBox_any a n cap l w hc hf hn hm)
  have HO := Lib.hid (fun h0 => hc.open hn h0)
  clear hc hf hn hm
  by_cases hz : boxE l n = 0
  · obtain ⟨h100, hsz, _⟩ := boxE_zero hz
    have HBT := Lib.hid (boxT_ok hz)
    have HZ := Lib.hid hz
    have HS := Lib.hid hsz
    have HWL := Lib.hid (wideK_le hsz)
    have HWM := Lib.hid (fun k hk => @wideK_mono l n k hk)
    have HRL : Hid (∀ k, k ≤ n → (rowsL l (wideK l n) k).length ≤ k * 405) := fun k hk => rowsL_len (fun j hj => ⟨HS.out j (by omega), HWM.out j (by omega)⟩) HWL.out
    rw [hz] at HCK ⊢
    clear hz hsz
    go_enter Tryd.func14, Tryd.ntmps14
    go_wp2_with fail
    refine HCK.out.mono ?_
    rintro e w1 ⟨rfl, hb1⟩
    have HB1 := Lib.hid hb1
    clear hb1
    go_wp2_with fail
    go_loopw [5, 6, 22] (fun v x i wr => ∃ k : Nat, k ≤ n ∧ x = .int .i64 (wideK l k : Nat) ∧ i = .int .i64 k ∧ GrowT wr w1.heap.size v (rowsK l k) ∧ Below w1.heap.size w1 wr) (fun _ _ i _ => n - (intOf i).toNat)
    case atStart => exact ⟨0, Nat.zero_le _, rfl, rfl, GrowT.nil _ _, Below.refl _ _⟩
    case round =>
      obtain ⟨k, hk, rfl, rfl, hg, hb⟩ := hrel
      have HG := Lib.hid hg
      have HB := Lib.hid hb
      clear hg hb
      by_cases hlt : k < n
      · have hlt' : (k : Int) < (n : Int) := by omega
        obtain ⟨b, off, rfl, hcell⟩ := HO.out (by omega)
        have x0 := hcell wr (HB1.out.trans (HB.out.mono HB1.out.size)) k hlt
        have hsk := HS.out k hlt
        have HRK : Hid (rowsK l (k + 1) = rowsK l k ++ [shownT (snt l k)]) := rfl
        have hmx : max ((wideK l k : Nat) : Int) ((lets (snt l k) : Nat) : Int) = ((wideK l (k + 1) : Nat) : Int) := by rw [wideK]; omega
        have HKL := Lib.hid (rowsK_len l k)
        clear hcell
        generalize snt l k = sk at *
        generalize wideK l k = wk at *
        go_wp2_with fail
        refine (readable_any sk _ hsk).mono ?_
        rintro e w2 ⟨rfl, hb2⟩
        have HG2 := Lib.hid (HG.out.below hb2)
        have HB2 := Lib.hid (HB.out.trans (hb2.mono HB.out.size))
        have HBX := Lib.hid (kbelow_box w2 (.cells #[.string (shownT sk)] 9))
        have HG3 := Lib.hid (HG2.out.below HBX.out)
        have HB3 := Lib.hid (HB2.out.trans (HBX.out.mono HB2.out.size))
        have HCX : Hid ((w2.alloc (.cells #[.string (shownT sk)] 9)).cell? ⟨w2.heap.size, 0, none⟩ = some (.string (shownT sk))) := by
          unfold Hid
          rw [World.cell?_alloc_at (w := w2) _ _ _ _ rfl]
          rfl
        clear hb2 HG HB x0 HG2 HB2
        go_wp2_with (first
          | (at_builtin; refine wpList_run_app _ rfl _ _ _ rfl rfl rfl (run_app_one _ _ w1.heap.size _ (rowsK l k) HG3.out w2.heap.size (shownT sk) HCX.out (by rw [HKL.out]; omega) HB3.out.size) ?_
             rintro v4 w4 ⟨hg4, hb4⟩
             rw [← HRK.out] at hg4
             have HG4 := Lib.hid hg4
             have HB4 := Lib.hid (HB3.out.trans hb4)
             clear hg4 hb4))
        refine (count_any sk _ hsk).mono ?_
        rintro e w5 ⟨rfl, hb5⟩
        have HG5 := Lib.hid (HG4.out.below hb5)
        have HB5 := Lib.hid (HB4.out.trans (hb5.mono HB4.out.size))
        clear hb5
        go_wp2_with fail
        go_roundw
        case rel => exact ⟨k + 1, by omega, by first | rfl | (rw [hmx]) | (rw [← hmx]), by go_num, HG5.out, HB5.out⟩
        case measure => simp [intOf]; omega
      · obtain rfl : n = k := by omega
        have HRA := Lib.hid (rowsK_at l n)
        have HKL := Lib.hid (rowsK_len l n)
        obtain ⟨xa, ca, rfl, hop⟩ := HG.out.open
        rw [HKL.out] at hop ⊢
        have HOP := Lib.hid hop
        have HBX := Lib.hid HBT.out
        clear hop
        have hw200 := HWL.out
        have HBL : Hid (boxL l n = edgeL (wideK l n) ++ rowsL l (wideK l n) n ++ edgeL (wideK l n)) := rfl
        generalize wideK l n = wd at *
        go_wp2_with fail
        refine (rep_any 45 wd _ hw200).mono ?_
        rintro e w2 ⟨rfl, hb2⟩
        have HB2 := Lib.hid (HB.out.trans (hb2.mono HB.out.size))
        have HRD : Hid (Below wr.heap.size wr w2) := hb2
        have HRS := Lib.hid (repT_size 45 wd)
        have hj1 : (⟨#[43, 45]⟩ : ByteArray).size + (repT 45 wd).size ≤ 9223372036854775807 := by rw [HRS.out]; show 2 + wd ≤ _; omega
        have hj2 : ((⟨#[43, 45]⟩ : ByteArray) ++ repT 45 wd).size + (⟨#[45, 43]⟩ : ByteArray).size ≤ 9223372036854775807 := by rw [ByteArray.size_append, HRS.out]; show 2 + wd + 2 ≤ _; omega
        have hj3 : ((⟨#[43, 45]⟩ : ByteArray) ++ repT 45 wd ++ (⟨#[45, 43]⟩ : ByteArray)).size + (⟨#[10]⟩ : ByteArray).size ≤ 9223372036854775807 := by rw [ByteArray.size_append, ByteArray.size_append, HRS.out]; show 2 + wd + 2 + 1 ≤ _; omega
        have HED : Hid (((⟨#[43, 45]⟩ : ByteArray) ++ repT 45 wd ++ (⟨#[45, 43]⟩ : ByteArray) ++ (⟨#[10]⟩ : ByteArray)).data.toList = edgeL wd) := by
          unfold Hid
          rw [ba_append, ba_append, ba_append, repT_list]
          simp [edgeL]
        have HEZ : Hid (((⟨#[43, 45]⟩ : ByteArray) ++ repT 45 wd ++ (⟨#[45, 43]⟩ : ByteArray) ++ (⟨#[10]⟩ : ByteArray)).size = wd + 5) := by
          unfold Hid
          rw [size_toList, HED.out, edgeL_len]
        have HBF := Lib.hid (Bld.fresh w2)
        have HBXX := Lib.hid (kbelow_box w2 (.cells #[.pointer none, .slice none 0 0] 42))
        clear hb2
        go_wp2_with fail
        generalize ((⟨#[43, 45]⟩ : ByteArray) ++ repT 45 wd ++ (⟨#[45, 43]⟩ : ByteArray) ++ (⟨#[10]⟩ : ByteArray)) = ED at *
        refine (write_any w2.heap.size w2.heap.size [] ED _ HBF.out (by rw [HEZ.out]; simp; omega) HBXX.out.size).mono ?_
        rintro e w3 ⟨rfl, hbl3, hb3, _⟩
        have HBL3 : Hid (Bld w3 w2.heap.size w2.heap.size (edgeL wd ++ rowsL l wd 0)) := by
          unfold Hid
          rw [List.nil_append, HED.out] at hbl3
          rw [rowsL, List.append_nil]
          exact hbl3
        have HB3 := Lib.hid (HBXX.out.trans hb3)
        clear hbl3 hb3 HBF hj1 hj2 hj3
        go_wp2_with fail
        go_loopw [46] (fun i wq => ∃ k : Nat, k ≤ n ∧ i = .int .i64 k ∧ Bld wq w2.heap.size w2.heap.size (edgeL wd ++ rowsL l wd k) ∧ Below w2.heap.size w2 wq) (fun i _ => n - (intOf i).toNat)
        case atStart => exact ⟨0, Nat.zero_le _, rfl, HBL3.out, HB3.out⟩
        case round =>
          clear HBL3 HB3
          obtain ⟨k, hk, rfl, hbl, hb⟩ := hrel
          have HBLK := Lib.hid hbl
          have HBK := Lib.hid hb
          clear hbl hb
          by_cases hlt : k < n
          · have hlt' : (k : Int) < (n : Int) := by omega
            obtain ⟨g, rfl, hgl, hcell⟩ := HOP.out (by omega)
            have hsk := HS.out k hlt
            have hwk := HWM.out k hlt
            have HRLK := Lib.hid (HRL.out k (by omega))
            have x0 := ((HRD.out.trans (HBK.out.mono HRD.out.size)).cell (p := ⟨g, k, none⟩) hgl).trans (hcell k _ (HRA.out k hlt))
            have HRN : Hid (rowsL l wd (k + 1) = rowsL l wd k ++ rowL (snt l k) wd) := rfl
            have HRW : Hid (rowL (snt l k) wd = [124, 32] ++ shownL (snt l k) ++ List.replicate (wd - lets (snt l k)) 32 ++ [32, 124, 10]) := rfl
            clear hcell
            generalize snt l k = sk at *
            obtain ⟨r, hr⟩ : ∃ r, wd - lets sk = r := ⟨_, rfl⟩
            rw [hr] at HRW
            have hr2 : (wd : Int) - (lets sk : Int) = (r : Int) := by omega
            have HLS := Lib.hid hr2
            have hr200 : r ≤ 200 := by omega
            have HSH := Lib.hid (shownT_list sk)
            have HSS := Lib.hid (shownT_size sk)
            have HRP := Lib.hid (repT_list 32 r)
            have HRZ := Lib.hid (repT_size 32 r)
            clear hr
            go_wp2_with fail
            refine (count_any sk _ hsk).mono ?_
            rintro e w4 ⟨rfl, hb4⟩
            have HBL4 := Lib.hid (HBLK.out.below hb4)
            have HB4 := Lib.hid (HBK.out.trans (hb4.mono HBK.out.size))
            clear hb4 x0 HBLK HBK
            go_wp2_with fail
            refine (rep_any 32 r _ hr200).mono ?_
            rintro e w5 ⟨rfl, hb5⟩
            have HBL5 := Lib.hid (HBL4.out.below hb5)
            have HB5 := Lib.hid (HB4.out.trans (hb5.mono HB4.out.size))
            clear hb5 HBL4 HB4
            generalize shownT sk = st at *
            generalize repT 32 r = rt at *
            have hst := HSS.out
            have hrt := HRZ.out
            have hj1 : (⟨#[124, 32]⟩ : ByteArray).size + st.size ≤ 9223372036854775807 := by show 2 + st.size ≤ _; omega
            have hj2 : ((⟨#[124, 32]⟩ : ByteArray) ++ st).size + rt.size ≤ 9223372036854775807 := by rw [ByteArray.size_append]; show 2 + st.size + rt.size ≤ _; omega
            have hj3 : ((⟨#[124, 32]⟩ : ByteArray) ++ st ++ rt).size + (⟨#[32, 124]⟩ : ByteArray).size ≤ 9223372036854775807 := by rw [ByteArray.size_append, ByteArray.size_append]; show 2 + st.size + rt.size + 2 ≤ _; omega
            have hj4 : ((⟨#[124, 32]⟩ : ByteArray) ++ st ++ rt ++ (⟨#[32, 124]⟩ : ByteArray)).size + (⟨#[10]⟩ : ByteArray).size ≤ 9223372036854775807 := by rw [ByteArray.size_append, ByteArray.size_append, ByteArray.size_append]; show 2 + st.size + rt.size + 2 + 1 ≤ _; omega
            have HLI : Hid (((⟨#[124, 32]⟩ : ByteArray) ++ st ++ rt ++ (⟨#[32, 124]⟩ : ByteArray) ++ (⟨#[10]⟩ : ByteArray)).data.toList = rowL sk wd) := by
              unfold Hid
              rw [HRW.out, ba_append, ba_append, ba_append, ba_append, HSH.out, HRP.out]
              simp
            have HLZ : Hid (((⟨#[124, 32]⟩ : ByteArray) ++ st ++ rt ++ (⟨#[32, 124]⟩ : ByteArray) ++ (⟨#[10]⟩ : ByteArray)).size ≤ 405) := by
              unfold Hid
              rw [ByteArray.size_append, ByteArray.size_append, ByteArray.size_append, ByteArray.size_append]
              show 2 + st.size + rt.size + 2 + 1 ≤ 405
              omega
            clear hst hrt
            go_wp2_with fail
            generalize ((⟨#[124, 32]⟩ : ByteArray) ++ st ++ rt ++ (⟨#[32, 124]⟩ : ByteArray) ++ (⟨#[10]⟩ : ByteArray)) = LI at *
            refine (write_any w2.heap.size w2.heap.size _ LI _ HBL5.out (by rw [List.length_append, edgeL_len]; have h1 := HRLK.out; have h2 := HLZ.out; omega) HB5.out.size).mono ?_
            rintro e w6 ⟨rfl, hbl6, hb6, _⟩
            have HBL6 : Hid (Bld w6 w2.heap.size w2.heap.size (edgeL wd ++ rowsL l wd (k + 1))) := by
              unfold Hid
              rw [HLI.out, List.append_assoc, ← HRN.out] at hbl6
              exact hbl6
            have HB6 := Lib.hid (HB5.out.trans hb6)
            clear hbl6 hb6
            go_wp2_with fail
            go_roundw
            case rel => exact ⟨k + 1, by omega, by go_num, HBL6.out, HB6.out⟩
            case measure => simp [intOf]; omega
          · obtain rfl : n = k := by omega
            have HRLK := Lib.hid (HRL.out n (Nat.le_refl _))
            go_wp2_with fail
            refine (write_any w2.heap.size w2.heap.size _ ED _ HBLK.out (by rw [List.length_append, edgeL_len, HEZ.out]; have h1 := HRLK.out; omega) HBK.out.size).mono ?_
            rintro e w4 ⟨rfl, hbl4, hb4, _⟩
            rw [HED.out, ← HBL.out] at hbl4
            have HBL4 := Lib.hid hbl4
            have HB4 := Lib.hid (HBK.out.trans hb4)
            clear hbl4 hb4
            go_wp2_with fail
            refine (string_any w2.heap.size w2.heap.size _ _ HBL4.out HB4.out.size).mono ?_
            rintro e w5 ⟨rfl, hb5⟩
            have HB5 := Lib.hid (HB4.out.trans hb5)
            clear hb5
            go_wp2_with fail
            go_ret2
            exact ⟨ret_se HBT.out.symm rfl, HB1.out.trans ((HB2.out.trans (HB5.out.mono HB2.out.size)).mono HB1.out.size)⟩
  · have HBT := Lib.hid (boxT_bad hz)
    have hzB : (boxE l n != 0) = true := by simpa using hz
    clear hz
    generalize boxE l n = be at *
    go_enter Tryd.func14, Tryd.ntmps14
    go_wp2_with fail
    refine HCK.out.mono ?_
    rintro e w1 ⟨rfl, hb1⟩
    have HB1 := Lib.hid hb1
    clear hb1
    go_wp2_with fail
    go_ret2
    exact ⟨ret_se HBT.out.symm rfl, HB1.out⟩
end Go.Proofs.YtmchanddfodhaaaDoor
