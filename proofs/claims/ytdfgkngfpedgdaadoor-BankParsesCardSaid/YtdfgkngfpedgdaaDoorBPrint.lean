/-
  Promises P2, P3: a file as a list of bytes; strings.Builder; the walk of Print.
-/
import Derived.Test.YtdfgkngfpedgdaaDoorBSum
import Derived.Test.YtdfgkngfpedgdaaDoorBShelf
import Derived.Deep.RegionHeld3
import Derived.Deep.RegionWith
namespace Go.Proofs.YtdfgkngfpedgdaaDoor
open Go.RowKit

def headL (day n tot : Nat) : List UInt8 := [70] ++ sfx day 5 ++ sfx n 3 ++ sfx tot 15 ++ [10]
def payL (p : Py) : List UInt8 := [80] ++ p.acc.data.toList ++ sfx p.mon.toNat 13 ++ sfx p.ref.toNat 6 ++ p.nam.data.toList ++ List.replicate (12 - p.nam.size) 46 ++ [10]
def linesL (l : List Py) : Nat → List UInt8
  | 0 => []
  | k + 1 => linesL l k ++ payL (pnth l k)
def endL (c : Nat) : List UInt8 := [69] ++ sfx c 10 ++ [10]
def fileL (day : Int) (l : List Py) (n : Nat) : List UInt8 := headL day.toNat n (sumL l).toNat ++ linesL l n ++ endL (chkN l day n).toNat
def fileT (day : Int) (l : List Py) (n : Nat) : ByteArray := ⟨(fileL day l n).toArray⟩
theorem headL_len (a b c : Nat) : (headL a b c).length = 25 := by simp [headL, sfx_len]
theorem OkP.nam {p : Py} (h : OkP p) : 1 ≤ p.nam.size ∧ p.nam.size ≤ 12 := by
  have := h.1.2
  unfold nameB at this
  rw [Bool.and_eq_true, decide_eq_true_iff] at this
  exact this.2
theorem payL_len {p : Py} (h : OkP p) : (payL p).length = 45 := by
  have h1 := h.num.2.2.1
  have h2 := h.nam
  rw [size_toList] at h1
  have e : p.nam.size = p.nam.data.toList.length := size_toList _
  simp only [payL, List.length_append, sfx_len, List.length_replicate, List.length_cons, List.length_nil, h1]
  omega
theorem linesL_len {l : List Py} {n : Nat} (h : ∀ j, j < n → OkP (pnth l j)) : ∀ k, k ≤ n → (linesL l k).length = 45 * k
  | 0, _ => rfl
  | k + 1, hk => by rw [linesL, List.length_append, linesL_len h k (by omega), payL_len (h k (by omega))]; omega
theorem endL_len (c : Nat) : (endL c).length = 12 := by simp [endL, sfx_len]
/-- A strings.Builder that holds the bytes l. -/
def Bld (w : World) (B b : Nat) (l : List UInt8) : Prop := Lib.IsBuilderF 61 5 B b (Lib.byteCells l) w
theorem Bld.fresh (w : World) : Bld (w.alloc (.cells #[.pointer none, .slice none 0 0] 61)) w.heap.size w.heap.size [] := by
  exact .inl ⟨Nat.le_refl _, .slice none 0 0, (MapKept.heap_alloc w _).1, World.ownsRowF_nil _ _ _ _, by simp [Value.ownBlock]⟩
theorem Bld.below {w w' : World} {B b : Nat} {l : List UInt8} (h : Bld w B b l) (hb : Below w.heap.size w w') : Bld w' B b l := by
  have hg : w.grownBy w' (none : Option Nat) := ⟨hb.os, hb.tape, hb.output, hb.size, fun k hk _ => hb.block k hk⟩
  have key : ∀ p, Lib.BuilderAtF 61 5 B b p (Lib.byteCells l) w → Lib.BuilderAtF 61 5 B b p (Lib.byteCells l) w' := by
    rintro p ⟨h1, v, h2, h3, h4⟩
    have hlt : b < w.heap.size := (Array.getElem?_eq_some_iff.1 h2).1
    refine ⟨h1, v, by rw [hb.block b hlt]; exact h2, h3.kept hg ?_, h4⟩
    cases v.ownBlock with
    | none => exact .inl rfl
    | some k => exact .inr (Option.some_ne_none k)
  rcases h with h | h
  · exact .inl (key _ h)
  · exact .inr (key _ h)
theorem Bld.lt {w : World} {B b : Nat} {l : List UInt8} (h : Bld w B b l) : b < w.heap.size := by
  rcases h with ⟨_, v, h2, _⟩ | ⟨_, v, h2, _⟩ <;> exact (Array.getElem?_eq_some_iff.1 h2).1
theorem write_any (B b : Nat) (l : List UInt8) (s : ByteArray) (w : World) (h : Bld w B b l) (hl : l.length + s.size ≤ 1000000) (hB : B ≤ w.heap.size) :
    Calls Tryd.prog 37 #[.pointer (some ⟨b, 0, none⟩), .string s] w fun e w' => e = .returned (.tuple #[.int .i64 s.size, .nilIface]) ∧ Bld w' B b (l ++ s.data.toList) ∧ Below B w w' ∧ Lib.OthersKept 5 (some b) w w' := by
  refine (sh_WriteString_k B b (Lib.byteCells l) s w h (by rw [Lib.byteCells_length]; omega) hB).mono ?_
  rintro e w' ⟨he, h1, h2, h3⟩
  refine ⟨he, .inr ?_, h2, h3⟩
  rw [Lib.byteCells_append]
  exact h1
theorem string_any (B b : Nat) (l : List UInt8) (w : World) (h : Bld w B b l) (hB : B ≤ w.heap.size) :
    Calls Tryd.prog 41 #[.pointer (some ⟨b, 0, none⟩)] w fun e w' => e = .returned (.string ⟨l.toArray⟩) ∧ Below B w w' :=
  (sh_String_k B b l w h hB).mono fun _ _ ⟨h1, _, h2, _⟩ => ⟨h1, h2⟩
/-- A payment's box. -/
def PBox (w : World) (g : Nat) (p : Py) : Prop := w.heap[g]? = some (.cells #[.string p.acc, .string p.nam, .int .i64 p.mon, .int .i64 p.ref] 46 (0, 0))
theorem PBox.cells {w : World} {g : Nat} {p : Py} (h : PBox w g p) : w.cell? ⟨g, 0, none⟩ = some (.string p.acc) ∧ w.cell? ⟨g, 1, none⟩ = some (.string p.nam) ∧ w.cell? ⟨g, 2, none⟩ = some (.int .i64 p.mon) ∧ w.cell? ⟨g, 3, none⟩ = some (.int .i64 p.ref) := by
  unfold PBox at h
  refine ⟨?_, ?_, ?_, ?_⟩ <;> simp [World.cell?, h]
theorem PBox.lt {w : World} {g : Nat} {p : Py} (h : PBox w g p) : g < w.heap.size := (Array.getElem?_eq_some_iff.1 h).1
theorem PBox.below {w w' : World} {g : Nat} {p : Py} (h : PBox w g p) (hb : Below w.heap.size w w') : PBox w' g p := by
  unfold PBox
  rw [hb.block g h.lt]
  exact h
theorem PBox.others {w w' : World} {g b : Nat} {p : Py} (h : PBox w g p) (ho : Lib.OthersKept 5 (some b) w w') (hb : g ≠ b) : PBox w' g p :=
  ho g _ h (by intro e; cases e; exact hb rfl) (by intro c fz e; cases e)
theorem PBox.made (w : World) (p : Py) : PBox (w.alloc (.cells #[.string p.acc, .string p.nam, .int .i64 p.mon, .int .i64 p.ref] 46)) w.heap.size p := (MapKept.heap_alloc w _).1
theorem join_run {a b : ByteArray} (h : a.size + b.size ≤ 1000000) (w : World) : (Op.stringOp .add a b).run Tryd.prog w = .ok (.string (a ++ b)) w := run_string_add_sum w a b (by omega)
def prE (day : Int) (l : List Py) (n : Nat) : Int := if dayB day = true then payE l n else 3
def prT (day : Int) (l : List Py) (n : Nat) : ByteArray := if prE day l n = 0 then fileT day l n else nilT
theorem pr_day {day : Int} {l : List Py} {n : Nat} (h : dayB day = false) : prE day l n = 3 ∧ prT day l n = nilT := by
  have e : prE day l n = 3 := by unfold prE; rw [h]; rfl
  exact ⟨e, by unfold prT; rw [e]; rfl⟩
theorem pr_pay {day : Int} {l : List Py} {n : Nat} (h : dayB day = true) (h2 : payE l n ≠ 0) : prE day l n = payE l n ∧ prT day l n = nilT := by
  have e : prE day l n = payE l n := by unfold prE; rw [h]; rfl
  exact ⟨e, by unfold prT; rw [e, if_neg h2]⟩
theorem pr_ok {day : Int} {l : List Py} {n : Nat} (h : dayB day = true) (h2 : payE l n = 0) : prE day l n = 0 ∧ prT day l n = fileT day l n := by
  have e : prE day l n = 0 := by unfold prE; rw [h, h2]; rfl
  exact ⟨e, by unfold prT; rw [e, if_pos rfl]⟩
set_option maxRecDepth 100000 in
set_option maxHeartbeats 4000000 in
theorem Print_any (day : Int) (a : Option Addr) (n cap : Nat) (l : List Py) (w : World) (ht : Tab w) (hc : CameP w a l) (hf : ∀ j, j < n → FitP (pnth l j)) (hn : l.length = n) (hm : n ≤ 9223372036854775807) :
    Calls Tryd.prog 17 #[.int .i64 day, .slice a n cap] w fun e w' => e = .returned (.tuple #[.string (prT day l n), .int .i64 (prE day l n)]) ∧ Below w.heap.size w w' := by
  cases hd : dayB day
  · rw [(pr_day hd).1, (pr_day hd).2]
    go_enter Tryd.func17, Tryd.ntmps17
    go_wp2_with (go_at_call 35; refine (isDay_any _ _).mono ?_; rintro e w' ⟨rfl, h'⟩; subst w'; rw [hd])
    go_ret2
    exact ⟨rfl, Below.refl _ _⟩
  · have HCK := Lib.hid (checkPayments_any a n cap l w ht hc hf hn hm)
    have HT := Lib.hid ht
    have HC := Lib.hid hc
    have HN := Lib.hid hn
    clear ht hc hn hf
    by_cases hp : payE l n = 0
    · rw [(pr_ok hd hp).1, (pr_ok hd hp).2]
      rw [hp] at HCK
      obtain ⟨h300, hall, _⟩ := payE_zero hp
      have HOK := Lib.hid (okP_of hall)
      have HMB : Hid (MonB l) := fun j hj => mon_of hall j (by rw [HN.out] at hj; exact hj)
      have hdd := dayB_iff.1 hd
      obtain ⟨dN, hdN⟩ : ∃ dN : Nat, day = (dN : Int) := ⟨day.toNat, by omega⟩
      have HSU := Lib.hid (fun w hc => sum_any a n cap l w hc HN.out (by omega) HMB.out)
      have HCN := Lib.hid (fun w hc => checkNumber_any day a n cap l w hc HN.out h300 HOK.out hdd)
      have hsb := sumL_bd HMB.out l.length (Nat.le_refl _)
      rw [List.take_length] at hsb
      have hcb := chkN_bd l day n
      obtain ⟨sN, hsN⟩ : ∃ sN : Nat, sumL l = (sN : Int) := ⟨(sumL l).toNat, by omega⟩
      obtain ⟨cN, hcN⟩ : ∃ cN : Nat, chkN l day n = (cN : Int) := ⟨(chkN l day n).toNat, by omega⟩
      have HFI : Hid (fileL day l n = headL dN n sN ++ linesL l n ++ endL cN) := by
        unfold Hid fileL
        rw [hsN, hcN, hdN]
        rfl
      have hs15 : sN < 10 ^ 15 := by
        have e : (10 : Nat) ^ 15 = 1000000000000000 := by decide
        rw [HN.out] at hsb
        omega
      have hc10 : cN < 10 ^ 10 := by
        have e : (10 : Nat) ^ 10 = 10000000000 := by decide
        omega
      have hd5 : dN < 10 ^ 5 := by
        have e : (10 : Nat) ^ 5 = 100000 := by decide
        omega
      have hn3 : n < 10 ^ 3 := by
        have e : (10 : Nat) ^ 3 = 1000 := by decide
        omega
      rw [hsN] at HSU
      rw [hcN] at HCN
      have HLL := Lib.hid (linesL_len HOK.out)
      have HFT : Hid (fileT day l n = ⟨(fileL day l n).toArray⟩) := rfl
      generalize fileT day l n = FT at *
      generalize fileL day l n = FL at *
      subst hdN
      clear hp hall hsb hcb hsN hcN
      go_enter Tryd.func17, Tryd.ntmps17
      go_wp2_with (go_at_call 35; refine (isDay_any _ _).mono ?_; rintro e w' ⟨rfl, h'⟩; subst w'; rw [hd])
      refine HCK.out.mono ?_
      rintro e w1 ⟨rfl, hb1⟩
      have HB1 := Lib.hid hb1
      have HBL := Lib.hid (Bld.fresh w1)
      have HB2 := Lib.hid (bbelow_box w1 (.cells #[.pointer none, .slice none 0 0] 61))
      clear hb1
      go_wp2_with fail
      refine (padded_k dN 5 5 rfl _ ((HT.out.below HB1.out).below HB2.out) (by omega) (by omega) hd5).mono ?_
      rintro e w2 ⟨rfl, hb2⟩
      have HBL2 := Lib.hid (HBL.out.below hb2)
      have HB3 := Lib.hid (HB2.out.trans (hb2.mono HB2.out.size))
      clear hb2 HBL
      have hz0 : (⟨#[70]⟩ : ByteArray).size + (padT dN 5).size ≤ 9223372036854775807 := by rw [padT_size]; decide
      go_wp2_with fail
      have HA1 : Hid (((⟨#[70]⟩ : ByteArray) ++ padT dN 5).data.toList = [70] ++ sfx dN 5) := by unfold Hid; rw [ba_append, padT_list]
      have hz1 : ((⟨#[70]⟩ : ByteArray) ++ padT dN 5).size = 6 := by rw [ByteArray.size_append, padT_size]; rfl
      generalize ((⟨#[70]⟩ : ByteArray) ++ padT dN 5) = A1 at *
      have hz1' : A1.size + (padT n 3).size ≤ 9223372036854775807 := by rw [padT_size, hz1]; omega
      have HZ1 := Lib.hid hz1
      clear hz1 hz0
      refine (padded_k n 3 3 rfl _ ((HT.out.below HB1.out).below HB3.out) (by omega) (by omega) hn3).mono ?_
      rintro e w3 ⟨rfl, hb3⟩
      have HBL3 := Lib.hid (HBL2.out.below hb3)
      have HB4 := Lib.hid (HB3.out.trans (hb3.mono HB3.out.size))
      clear hb3 HBL2
      go_wp2_with fail
      have HA2 : Hid ((A1 ++ padT n 3).data.toList = [70] ++ sfx dN 5 ++ sfx n 3) := by unfold Hid; rw [ba_append, padT_list, HA1.out]
      have hz2 : (A1 ++ padT n 3).size = 9 := by rw [ByteArray.size_append, padT_size, HZ1.out]
      generalize (A1 ++ padT n 3) = A2 at *
      have hz2' : A2.size + (padT sN 15).size ≤ 9223372036854775807 := by rw [padT_size, hz2]; omega
      have HZ2 := Lib.hid hz2
      clear hz2 hz1'
      refine (HSU.out _ ((HC.out.below HB1.out).below HB4.out)).mono ?_
      rintro e w4 ⟨rfl, hb4⟩
      have HBL4 := Lib.hid (HBL3.out.below hb4)
      have HB5 := Lib.hid (HB4.out.trans (hb4.mono HB4.out.size))
      clear hb4 HBL3
      go_wp2_with fail
      refine (padded_k sN 15 15 rfl _ ((HT.out.below HB1.out).below HB5.out) (by omega) (by omega) hs15).mono ?_
      rintro e w5 ⟨rfl, hb5⟩
      have HBL5 := Lib.hid (HBL4.out.below hb5)
      have HB6 := Lib.hid (HB5.out.trans (hb5.mono HB5.out.size))
      clear hb5 HBL4
      have hz3' : (A2 ++ padT sN 15).size + (⟨#[10]⟩ : ByteArray).size ≤ 9223372036854775807 := by rw [ByteArray.size_append, padT_size, HZ2.out]; decide
      go_wp2_with fail
      have HA3 : Hid ((A2 ++ padT sN 15 ++ (⟨#[10]⟩ : ByteArray)).data.toList = headL dN n sN) := by unfold Hid; rw [ba_append, ba_append, padT_list, HA2.out]; rfl
      have hz3 : (A2 ++ padT sN 15 ++ (⟨#[10]⟩ : ByteArray)).size = 25 := by rw [size_toList, HA3.out, headL_len]
      generalize (A2 ++ padT sN 15 ++ (⟨#[10]⟩ : ByteArray)) = A3 at *
      refine (write_any w1.heap.size w1.heap.size [] A3 _ HBL5.out (by rw [hz3]; simp) HB6.out.size).mono ?_
      rintro e w6 ⟨rfl, hbl6, hb6, _⟩
      have HBL6 : Hid (Bld w6 w1.heap.size w1.heap.size (headL dN n sN ++ linesL l 0)) := by
        unfold Hid
        rw [List.nil_append, HA3.out] at hbl6
        rw [linesL, List.append_nil]
        exact hbl6
      have HB7 := Lib.hid (HB6.out.trans hb6)
      clear hb6 hbl6 HBL5 hz3 hz3' hz2' HA1 HA2 HA3 HZ1 HZ2
      have HO := Lib.hid (fun h0 => (HC.out.below HB1.out).open HN.out h0)
      have HT1 := Lib.hid (HT.out.below HB1.out)
      go_wp2_with fail
      go_loopw [34] (fun i wr => ∃ k : Nat, k ≤ n ∧ i = .int .i64 k ∧ Bld wr w1.heap.size w1.heap.size (headL dN n sN ++ linesL l k) ∧ Below w1.heap.size w1 wr ∧ w1.heap.size < wr.heap.size) (fun i _ => n - (intOf i).toNat)
      case atStart => exact ⟨0, Nat.zero_le _, rfl, HBL6.out, HB7.out, HBL6.out.lt⟩
      case round =>
        clear HBL6 HB7
        obtain ⟨k, hk, rfl, hbl, hb, hsz⟩ := hrel
        have HBL := Lib.hid hbl
        have HB := Lib.hid hb
        clear hbl hb
        by_cases hlt : k < n
        · have hlt' : (k : Int) < (n : Int) := by omega
          obtain ⟨b, off, rfl, hbl, hcell⟩ := HO.out (by omega)
          obtain ⟨x0, x1, x2, x3⟩ := hcell wr HB.out k hlt
          have hokk := HOK.out k hlt
          have HLN := Lib.hid (HLL.out k hk)
          have HLS : Hid (linesL l (k + 1) = linesL l k ++ payL (pnth l k)) := rfl
          have HPL : Hid (payL (pnth l k) = [80] ++ (pnth l k).acc.data.toList ++ sfx (pnth l k).mon.toNat 13 ++ sfx (pnth l k).ref.toNat 6 ++ (pnth l k).nam.data.toList ++ List.replicate (12 - (pnth l k).nam.size) 46 ++ [10]) := rfl
          have HPLN := Lib.hid (payL_len hokk)
          obtain ⟨_, _, hz12, _⟩ := hokk.num
          obtain ⟨_, hnz⟩ := hokk.nam
          obtain ⟨_, ⟨m0, m1⟩, r0, r1⟩ := hokk
          clear hcell hbl
          generalize payL (pnth l k) = PL at *
          generalize pnth l k = P at *
          obtain ⟨ac, nm, mo, rf⟩ := P
          dsimp only at x0 x1 x2 x3 HPL hz12 hnz m0 m1 r0 r1
          obtain ⟨mN, rfl⟩ : ∃ mN : Nat, mo = (mN : Int) := ⟨mo.toNat, by omega⟩
          obtain ⟨rN, rfl⟩ : ∃ rN : Nat, rf = (rN : Int) := ⟨rf.toNat, by omega⟩
          obtain ⟨r, hr⟩ : ∃ r, r = 12 - nm.size := ⟨_, rfl⟩
          have hr' : 12 - (nm.size : Int) = (r : Int) := by omega
          have HPX := Lib.hid (PBox.made wr ⟨ac, nm, (mN : Int), (rN : Int)⟩)
          have HBLx := Lib.hid (HBL.out.below (bbelow_box wr (.cells #[.string ac, .string nm, .int .i64 (mN : Int), .int .i64 (rN : Int)] 46)))
          have HBX := Lib.hid (HB.out.alloc HB.out.size (.cells #[.string ac, .string nm, .int .i64 (mN : Int), .int .i64 (rN : Int)] 46))
          have HRN : Hid (r + nm.size = 12) := by unfold Hid; omega
          rw [← hr] at HPL
          have HAZ := Lib.hid hz12
          have hr12 : r ≤ 12 := by omega
          have HRP : Hid (Lib.repeatL (⟨#[46]⟩ : ByteArray).data.toList r = List.replicate r 46) := repeatL_one 46 r
          have hm13 : mN < 10 ^ 13 := by
            have e : (10 : Nat) ^ 13 = 10000000000000 := by decide
            omega
          have hr6 : rN < 10 ^ 6 := by
            have e : (10 : Nat) ^ 6 = 1000000 := by decide
            omega
          have HNN := Lib.hid hnz
          clear hr hz12 m0 m1 r0 r1 hnz
          go_wp2_with fail
          refine (sh_strings_Repeat ⟨#[46]⟩ r _ (by omega) (by show 1 * r ≤ _; omega)).mono ?_
          rintro e w7 ⟨rfl, hb7⟩
          have HPX7 := Lib.hid (HPX.out.below hb7)
          have HBL7 := Lib.hid (HBLx.out.below hb7)
          have HB7 := Lib.hid (HBX.out.trans (hb7.mono HBX.out.size))
          have hsz7 : wr.heap.size < w7.heap.size := HPX7.out.lt
          rw [HRP.out]
          have HDT : Hid ((⟨(List.replicate r (46 : UInt8)).toArray⟩ : ByteArray).data.toList = List.replicate r 46) := by unfold Hid; simp
          have HDZ : Hid ((⟨(List.replicate r (46 : UInt8)).toArray⟩ : ByteArray).size = r) := by unfold Hid; rw [size_toList, HDT.out, List.length_replicate]
          generalize (⟨(List.replicate r (46 : UInt8)).toArray⟩ : ByteArray) = dt at *
          clear hb7 HPX HBLx HBX x0 x1 x2 x3 hr' HRP
          obtain ⟨c0, c1, c2, c3⟩ := HPX7.out.cells
          dsimp only at c0 c1 c2 c3
          have HT7 := Lib.hid ((HT1.out.below HB7.out).below (Below.refl w7.heap.size w7).drew)
          have j1 := join_run (a := ⟨#[80]⟩) (b := ac) (by rw [HAZ.out]; decide)
          have j2 := join_run (a := (⟨#[80]⟩ : ByteArray) ++ ac) (b := padT mN 13) (by rw [ByteArray.size_append, padT_size, HAZ.out]; decide)
          have j3 := join_run (a := (⟨#[80]⟩ : ByteArray) ++ ac ++ padT mN 13) (b := padT rN 6) (by rw [ByteArray.size_append, ByteArray.size_append, padT_size, padT_size, HAZ.out]; decide)
          have j4 := join_run (a := (⟨#[80]⟩ : ByteArray) ++ ac ++ padT mN 13 ++ padT rN 6) (b := nm) (by rw [ByteArray.size_append, ByteArray.size_append, ByteArray.size_append, padT_size, padT_size, HAZ.out]; show 1 + 12 + 13 + 6 + nm.size ≤ 1000000; have := HNN.out; omega)
          have j5 := join_run (a := (⟨#[80]⟩ : ByteArray) ++ ac ++ padT mN 13 ++ padT rN 6 ++ nm) (b := dt) (by rw [ByteArray.size_append, ByteArray.size_append, ByteArray.size_append, ByteArray.size_append, padT_size, padT_size, HAZ.out, HDZ.out]; show 1 + 12 + 13 + 6 + nm.size + r ≤ 1000000; have := HNN.out; omega)
          have j6 := join_run (a := (⟨#[80]⟩ : ByteArray) ++ ac ++ padT mN 13 ++ padT rN 6 ++ nm ++ dt) (b := ⟨#[10]⟩) (by rw [ByteArray.size_append, ByteArray.size_append, ByteArray.size_append, ByteArray.size_append, ByteArray.size_append, padT_size, padT_size, HAZ.out, HDZ.out]; show 1 + 12 + 13 + 6 + nm.size + r + 1 ≤ 1000000; have := HNN.out; omega)
          have HLI : Hid (((⟨#[80]⟩ : ByteArray) ++ ac ++ padT mN 13 ++ padT rN 6 ++ nm ++ dt ++ ⟨#[10]⟩).data.toList = PL) := by
            unfold Hid
            rw [HPL.out, ba_append, ba_append, ba_append, ba_append, ba_append, ba_append, padT_list, padT_list, HDT.out]
            rfl
          have HLZ : Hid (((⟨#[80]⟩ : ByteArray) ++ ac ++ padT mN 13 ++ padT rN 6 ++ nm ++ dt ++ ⟨#[10]⟩).size = 45) := by
            unfold Hid
            rw [size_toList, HLI.out, HPLN.out]
          go_wp2_with fail
          go_region_held3 (fun w' => w'.cell? ⟨wr.heap.size, 0, none⟩ = some (.string ac) ∧ w'.cell? ⟨wr.heap.size, 1, none⟩ = some (.string nm) ∧ w'.cell? ⟨wr.heap.size, 2, none⟩ = some (.int .i64 (mN : Int)) ∧ w'.cell? ⟨wr.heap.size, 3, none⟩ = some (.int .i64 (rN : Int))) (go_keep)
            (first
              | (have := HX9; go_at_call 37; refine (write_any w1.heap.size w1.heap.size (headL dN n sN ++ linesL l k) _ _ HBL9.out ?_ ?_).mono ?_
                 · rw [HLZ.out, List.length_append, headL_len, HLN.out]; omega
                 · exact HB9.out.size
                 rintro e w10 ⟨rfl, hbl10, hb10, ho10⟩
                 have HBL10 := Lib.hid hbl10
                 have HB10 := Lib.hid (HB9.out.trans hb10)
                 have HX10 := Lib.hid (HX9.out.others ho10 (by omega))
                 obtain ⟨f0, f1, f2, f3⟩ := HX10.out.cells
                 dsimp only at f0 f1 f2 f3
                 clear hbl10 hb10 ho10)
              | (have := HX8; go_at_call 32; refine (padded_k rN 6 6 rfl _ HT8.out (by omega) (by omega) hr6).mono ?_; rintro e w9 ⟨rfl, hb9⟩
                 have HX9 := Lib.hid (HX8.out.below hb9)
                 have HBL9 := Lib.hid (HBL8.out.below hb9)
                 have HB9 := Lib.hid (HB8.out.trans (hb9.mono HB8.out.size))
                 obtain ⟨e0, e1, e2, e3⟩ := HX9.out.cells
                 dsimp only at e0 e1 e2 e3
                 clear hb9)
              | (go_at_call 32; refine (padded_k mN 13 13 rfl _ HT7.out (by omega) (by omega) hm13).mono ?_; rintro e w8 ⟨rfl, hb8⟩
                 have HX8 := Lib.hid (HPX7.out.below ((Below.refl w7.heap.size w7).drew.trans hb8))
                 have HBL8 := Lib.hid (HBL7.out.below ((Below.refl w7.heap.size w7).drew.trans hb8))
                 have HB8 := Lib.hid (HB7.out.trans (((Below.refl w7.heap.size w7).drew.trans hb8).mono HB7.out.size))
                 have HT8 := Lib.hid (HT1.out.below HB8.out)
                 obtain ⟨d0, d1, d2, d3⟩ := HX8.out.cells
                 dsimp only at d0 d1 d2 d3
                 clear hb8))
          all_goals go_wp2_with fail
          all_goals
            go_roundw
            case rel =>
              refine ⟨k + 1, by omega, by go_num, ?_, HB10.out, by have := HX10.out.lt; omega⟩
              rw [HLS.out, ← List.append_assoc, ← HLI.out]
              exact HBL10.out
            case measure => simp [intOf]; omega
        · obtain rfl : n = k := by omega
          go_wp2_with fail
          refine (HCN.out _ ((HC.out.below HB1.out).below HB.out)).mono ?_
          rintro e w8 ⟨rfl, hb8⟩
          have HBL8 := Lib.hid (HBL.out.below hb8)
          have HB8 := Lib.hid (HB.out.trans (hb8.mono HB.out.size))
          clear hb8
          go_wp2_with fail
          refine (padded_k cN 10 10 rfl _ (HT1.out.below HB8.out) (by omega) (by omega) hc10).mono ?_
          rintro e w9 ⟨rfl, hb9⟩
          have HBL9 := Lib.hid (HBL8.out.below hb9)
          have HB9 := Lib.hid (HB8.out.trans (hb9.mono HB8.out.size))
          have hz0 : (⟨#[69]⟩ : ByteArray).size + (padT cN 10).size ≤ 9223372036854775807 := by rw [padT_size]; decide
          have hz1 : ((⟨#[69]⟩ : ByteArray) ++ padT cN 10).size + (⟨#[10]⟩ : ByteArray).size ≤ 9223372036854775807 := by rw [ByteArray.size_append, padT_size]; decide
          have HEL : Hid (((⟨#[69]⟩ : ByteArray) ++ padT cN 10 ++ ⟨#[10]⟩).data.toList = endL cN) := by unfold Hid; rw [ba_append, ba_append, padT_list]; rfl
          have HEZ : Hid (((⟨#[69]⟩ : ByteArray) ++ padT cN 10 ++ ⟨#[10]⟩).size = 12) := by unfold Hid; rw [size_toList, HEL.out, endL_len]
          have HLN := Lib.hid (HLL.out n hk)
          clear hb9
          go_wp2_with fail
          refine (write_any w1.heap.size w1.heap.size (headL dN n sN ++ linesL l n) _ _ HBL9.out (by rw [HEZ.out, List.length_append, headL_len, HLN.out]; omega) HB9.out.size).mono ?_
          rintro e w10 ⟨rfl, hbl10, hb10, _⟩
          have HBL10 : Hid (Bld w10 w1.heap.size w1.heap.size FL) := by
            unfold Hid
            rw [HEL.out] at hbl10
            rw [HFI.out]
            exact hbl10
          have HB10 := Lib.hid (HB9.out.trans hb10)
          clear hbl10 hb10
          go_wp2_with fail
          refine (string_any w1.heap.size w1.heap.size FL _ HBL10.out HB10.out.size).mono ?_
          rintro e w11 ⟨rfl, hb11⟩
          have HB11 := Lib.hid (HB1.out.trans ((HB10.out.trans hb11).mono HB1.out.size))
          rw [← HFT.out]
          clear hb11
          go_wp2_with fail
          go_ret2
          exact ⟨rfl, HB11.out⟩
    · rw [(pr_pay hd hp).1, (pr_pay hd hp).2]
      have heB : (payE l n != 0) = true := by simpa using hp
      have heD : decide (payE l n = 0) = false := decide_eq_false hp
      go_enter Tryd.func17, Tryd.ntmps17
      go_wp2_with (go_at_call 35; refine (isDay_any _ _).mono ?_; rintro e w' ⟨rfl, h'⟩; subst w'; rw [hd])
      refine HCK.out.mono ?_
      rintro e w1 ⟨rfl, hb1⟩
      have HB1 := Lib.hid hb1
      clear hb1
      go_wp2_with fail
      go_ret2
      exact ⟨rfl, HB1.out⟩
end Go.Proofs.YtdfgkngfpedgdaaDoor
