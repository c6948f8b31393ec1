/-
  Promise P3: what a reader takes of a text: the walks of giveUp and take.
-/
import Derived.Test.YtdfgkngfpedgdaaDoorBPrint
import Derived.Test.YtdfgkngfpedgdaaDoorBPayA
import Derived.Recover
import Derived.BigRegion
import Derived.Lib.BufferOwn
namespace Go.Proofs.YtdfgkngfpedgdaaDoor
open Go.RowKit

/-- What is given up with. -/
def gone (e a : Int) : List PanicEntry := [{ v := .iface 80 (.agg #[.int .i64 e, .int .i64 a]), recovered := false }]
theorem giveUp_any (e a : Int) (w : World) : Calls Tryd.prog 71 #[.int .i64 e, .int .i64 a] w fun x w' => x = .panicked (gone e a) ∧ w' = w := by
  go_enter Tryd.func71, Tryd.ntmps71
  go_wp2_with fail
  exact ⟨rfl, rfl, rfl⟩
/-- The reader in block b of the text s, whose first k bytes are read. -/
def Rd (w : World) (b : Nat) (s : ByteArray) (k : Nat) : Prop := w.cell? ⟨b, 0, none⟩ = some (.string s) ∧ w.cell? ⟨b, 1, none⟩ = some (.int .i64 (k : Int)) ∧ w.frozen? ⟨b, 1, none⟩ = false
theorem Rd.lt {w : World} {b : Nat} {s : ByteArray} {k : Nat} (h : Rd w b s k) : b < w.heap.size := lt_of_cell h.1
theorem Rd.below {w w' : World} {b : Nat} {s : ByteArray} {k B : Nat} (h : Rd w b s k) (hb : Below B w w') (hB : b < B) : Rd w' b s k :=
  ⟨(hb.cell (p := ⟨b, 0, none⟩) hB).trans h.1, (hb.cell (p := ⟨b, 1, none⟩) hB).trans h.2.1, (hb.frozen (p := ⟨b, 1, none⟩) hB).trans h.2.2⟩
theorem Rd.put {w : World} {b : Nat} {s : ByteArray} {k : Nat} (h : Rd w b s k) (k' : Nat) : Rd (w.setCell ⟨b, 1, none⟩ (.int .i64 (k' : Int))) b s k' :=
  ⟨(World.cell?_setCell_other _ _ _ _ (fun e => by injection e; omega)).trans h.1, World.cell?_setCell_same _ _ _ h.2.1, by rw [World.frozen?_setCell]; exact h.2.2⟩
/-- So many bytes were taken, each of which fits; or it was given up at the first one that does not. -/
def Took (Q : Nat → Bool) (b : Nat) (s : ByteArray) (k n : Nat) (w : World) (e : Ending) (w' : World) : Prop :=
  w.grownBy w' (some b) ∧ ((e = .returned (.string (s.extract k (k + n))) ∧ (∀ j, j < n → Q j = true) ∧ Rd w' b s (k + n) ∧ k + n ≤ s.size) ∨ ∃ o, o < n ∧ e = .panicked (gone 1 ((k + o : Nat) : Int)) ∧ (∀ j, j < o → Q j = true) ∧ Q o = false)
theorem grown_iter (w : World) (s : ByteArray) (pos : Nat) (row : Option Nat) : w.grownBy (w.iter s pos) row := World.grownBy_alloc w _ row
theorem grown_di (w : World) (p : ByteArray) (q : Nat) (row : Option Nat) : w.grownBy (w.drew.iter p q) row := by
  have h := World.grownBy_alloc w.drew (.stringIter p q) row
  exact ⟨h.os, h.tape, h.output, h.size, h.block⟩
theorem below_di (w : World) (p : ByteArray) (q : Nat) : Below w.heap.size w (w.drew.iter p q) := by
  have h := iter_below w.drew p q
  exact ⟨h.os, h.tape, h.output, h.size, h.block⟩
theorem grown_set (w : World) (b i : Nat) (v : Value) : w.grownBy (w.setCell ⟨b, i, none⟩ v) (some b) := Lib.grownBy_setCell w b i v
theorem dec_one (s : ByteArray) (pos : Nat) (hp : pos < s.size) : ∃ r d : Nat, Utf8.decode s pos = (r, d) ∧ 1 ≤ d ∧ pos + d ≤ s.size ∧ ((bt s pos = (r : Int) ∧ d = 1 ∧ (r : Int) < 128) ∨ (128 ≤ (r : Int) ∧ 128 ≤ bt s pos)) := by
  have hbp := bt_in hp
  by_cases ha : (s[pos]'hp).toNat < 128
  · refine ⟨_, 1, decode_ascii s pos hp ha, Nat.le_refl _, hp, .inl ⟨hbp, rfl, by omega⟩⟩
  · have h1 := decode_high s pos hp (by omega)
    have h2 := decode_wide s pos hp (by omega)
    refine ⟨(Utf8.decode s pos).1, (Utf8.decode s pos).2, rfl, h1.2, ?_, .inr ⟨by have := h1.1; omega, by rw [hbp]; omega⟩⟩
    have := (h2 ((Utf8.decode s pos).2 - 1) (by omega)).1
    omega
/-- The byte ahead of the j-th one of what is taken; 0, if there is none. -/
def prv (s : ByteArray) (k j : Nat) : Int := if j = 0 then 0 else bt s (k + (j - 1))
theorem prv_zero (s : ByteArray) (k : Nat) : prv s k 0 = 0 := rfl
theorem prv_succ (s : ByteArray) (k j : Nat) : prv s k (j + 1) = bt s (k + j) := rfl
set_option maxRecDepth 100000 in
set_option maxHeartbeats 1000000 in
theorem take_gen (F : FuncId) (caps : Array Value) (PF : Int → Int → Bool) (U : Int → World) (N b : Nat) (s : ByteArray) (k n : Nat)
    (hF : ∀ r w, (callFunc F (#[.int .i32 r] ++ caps)).run Tryd.prog w = .ok (.enter F (#[.int .i32 r] ++ caps)) w)
    (hN : ∀ z, (U z).heap.size = N) (hr : ∀ z, Rd (U z) b s k)
    (hhi : ∀ z r, 128 ≤ r → PF z r = false) (hneg : ∀ z, PF z (-1) = false)
    (hcl : ∀ z r p q, Calls Tryd.prog F (#[.int .i32 r] ++ caps) ((U z).drew.iter p q) fun e w' => e = .returned (.bool (PF z r)) ∧ w' = (U r).drew.iter p q)
    (hk : k ≤ s.size) (hk2 : k ≤ 100000) (hn : n ≤ 100) (hs : s.size ≤ 9223372036854775807) :
    Calls Tryd.prog 74 #[.pointer (some ⟨b, 0, none⟩), .int .i64 (n : Int), .func (.func F) #[] caps] (U 0) fun e w' => ∃ z, Took (fun j => PF (prv s k j) (bt s (k + j))) b s k n (U z) e w' := by
  have HR := Lib.hid hr
  have HF := Lib.hid hF
  have HN := Lib.hid hN
  have HHI := Lib.hid hhi
  have HNEG := Lib.hid hneg
  have HCL := Lib.hid hcl
  obtain ⟨x0, x1, x2⟩ := hr 0
  clear hr hF hN hhi hneg hcl
  obtain ⟨e, he⟩ : ∃ e, e = min (k + n) s.size := ⟨_, rfl⟩
  have hmin : min ((k : Int) + (n : Int)) (s.size : Int) = (e : Int) := by omega
  have hke : (k : Int) ≤ (e : Int) := by omega
  have hes : (e : Int) ≤ (s.size : Int) := by omega
  obtain ⟨p, hp⟩ : ∃ p, p = s.extract k e := ⟨_, rfl⟩
  have hpz : p.size = e - k := by rw [hp, ByteArray.size_extract]; omega
  have HPB : Hid (∀ j, j < p.size → bt p j = bt s (k + j)) := fun j hj => by rw [hp]; exact bt_extract s k e j (by omega) (by omega)
  have hex : s.extract k e = p := hp.symm
  have HE := Lib.hid he
  have HPZ := Lib.hid hpz
  have hpn : p.size ≤ n := by omega
  clear hp he hpz
  go_enter Tryd.func74, Tryd.ntmps74
  go_wp2_with fail
  go_region
  go_wp2_with fail
  have hN0 : (U 0).heap.size = N := HN.out 0
  simp only [hN0]
  go_loopw [] (fun w' => ∃ pos z, w' = (U z).drew.iter p pos ∧ pos ≤ p.size ∧ z = prv s k pos ∧ ∀ j, j < pos → PF (prv s k j) (bt s (k + j)) = true) (fun w' => p.size - w'.iterPos N)
  case atStart => exact ⟨0, 0, rfl, Nat.zero_le _, rfl, fun j hj => absurd hj (by omega)⟩
  case round =>
    obtain ⟨pos, z, rfl, hpos, hz, hall⟩ := hrel
    have HA := Lib.hid hall
    have HZ := Lib.hid hz
    obtain ⟨x0, x1, x2⟩ := HR.out z
    clear hall hz
    have hsz : (U z).drew.heap.size = N := HN.out z
    have y1 : ((U z).drew.iter p pos).cell? ⟨b, 1, none⟩ = some (.int .i64 (k : Int)) := ((iter_below (U z).drew p pos).cell (p := ⟨b, 1, none⟩) (HR.out z).lt).trans x1
    by_cases hp : pos < p.size
    · obtain ⟨r, d, hdc, hd1, hd2, hcase⟩ := dec_one p pos hp
      have hnx : ∀ ty, (Instr.next (.pointer (some ⟨(U z).drew.heap.size, 0, none⟩)) true ty).run Tryd.prog ((U z).drew.iter p pos) = _ := fun ty => run_next_any (U z).drew p pos ty hp
      rw [hdc, hsz] at hnx
      simp only [] at hnx
      have hbp := HPB.out pos hp
      have HQ : Hid (PF z (r : Int) = PF (prv s k pos) (bt s (k + pos))) := by
        unfold Hid
        rw [← HZ.out]
        rcases hcase with ⟨h1, _, _⟩ | ⟨h1, h2⟩
        · rw [← hbp, h1]
        · rw [HHI.out _ _ h1, HHI.out _ _ (by rw [← hbp]; exact h2)]
      cases hb : PF z (r : Int)
      · go_wp2_with fail
        rw [HF.out, Oper.upon_enter]
        refine (HCL.out z (r : Int) p (pos + d)).mono ?_
        rintro e w' ⟨rfl, h'⟩
        subst w'
        rw [hb]
        have y2 : ((U (r : Int)).drew.iter p (pos + d)).cell? ⟨b, 1, none⟩ = some (.int .i64 (k : Int)) := ((iter_below (U (r : Int)).drew p (pos + d)).cell (p := ⟨b, 1, none⟩) (HR.out (r : Int)).lt).trans (HR.out (r : Int)).2.1
        go_wp2_with fail
        refine (giveUp_any _ _ _).mono ?_
        rintro e w2 ⟨rfl, rfl⟩
        go_wp2_with fail
        exact ⟨rfl, r, grown_di _ _ _ _, .inr ⟨pos, by omega, rfl, HA.out, HQ.out.symm.trans hb⟩⟩
      · go_wp2_with fail
        rw [HF.out, Oper.upon_enter]
        refine (HCL.out z (r : Int) p (pos + d)).mono ?_
        rintro e w' ⟨rfl, h'⟩
        subst w'
        rw [hb]
        go_wp2_with fail
        have hr1 : bt p pos = (r : Int) ∧ d = 1 := by
          rcases hcase with ⟨h1, h2, _⟩ | ⟨h1, h2⟩
          · exact ⟨h1, h2⟩
          · rw [HHI.out _ _ h1] at hb; cases hb
        obtain ⟨hr1, rfl⟩ := hr1
        go_roundw
        case rel =>
          refine ⟨pos + 1, r, rfl, hp, by rw [prv_succ, ← hbp, hr1], fun j hj => ?_⟩
          rcases (show j < pos ∨ j = pos by omega) with h | rfl
          · exact HA.out j h
          · rw [← HQ.out]; exact hb
        case measure =>
          have q1 : ((U (r : Int)).drew.iter p (pos + 1)).iterPos N = pos + 1 := by rw [← HN.out (r : Int)]; exact World.iterPos_iter (U (r : Int)).drew p (pos + 1)
          have q2 : ((U z).drew.iter p pos).iterPos N = pos := by rw [← HN.out z]; exact World.iterPos_iter (U z).drew p pos
          rw [q1, q2]
          omega
    · obtain rfl : pos = p.size := by omega
      have hnx : ∀ ty, (Instr.next (.pointer (some ⟨(U z).drew.heap.size, 0, none⟩)) true ty).run Tryd.prog ((U z).drew.iter p p.size) = _ := fun ty => run_next_end (U z).drew p p.size ty hp
      rw [hsz] at hnx
      have HRi := Lib.hid ((HR.out z).below (w' := (U z).drew.iter p p.size) (below_di (U z) p p.size) (HR.out z).lt)
      have HGi : Hid ((U z).grownBy ((U z).drew.iter p p.size) (some b))   := grown_di _ _ _ _
      obtain ⟨r0, r1, r2⟩ := HRi.out
      have he := HE.out
      have hpz := HPZ.out
      by_cases hl : s.size < k + n
      · have hl' : (p.size : Int) < (n : Int) := by omega
        have hks : k + p.size = s.size := by omega
        have HKS := Lib.hid hks
        clear he hpz hks
        go_wp2_with fail
        refine (giveUp_any _ _ _).mono ?_
        rintro e w2 ⟨rfl, rfl⟩
        go_wp2_with fail
        have e0 : bt s (k + p.size) = -1 := bt_out (by have := HKS.out; omega)
        exact ⟨rfl, z, HGi.out.trans (grown_set _ _ _ _), .inr ⟨p.size, by omega, rfl, HA.out, by show PF _ (bt s (k + p.size)) = false; rw [e0]; exact HNEG.out _⟩⟩
      · have hl' : decide ((p.size : Int) < (n : Int)) = false := decide_eq_false (by omega)
        have hl2 : decide (p.size < n) = false := decide_eq_false (by omega)
        have HPN : Hid (p.size = n) := by unfold Hid; omega
        have hkn : k + n ≤ s.size := by omega
        have HEX : Hid (p = s.extract k (k + n)) := by unfold Hid; rw [← hex, show e = k + n by omega]
        clear he hpz
        go_wp2_with fail
        have hkk : ((k : Int) + (p.size : Int)) = ((k + n : Nat) : Int) := by have := HPN.out; omega
        have HPOST : Hid (∃ z', Took (fun j => PF (prv s k j) (bt s (k + j))) b s k n (U z') (.returned (.string p)) (((U z).drew.iter p p.size).setCell ⟨b, 1, none⟩ (.int .i64 ((k : Int) + (p.size : Int))))) := by
          refine ⟨z, HGi.out.trans (grown_set _ _ _ _), .inl ⟨by rw [HEX.out], fun j hj => HA.out j (by rw [HPN.out]; exact hj), ?_, hkn⟩⟩
          rw [hkk]
          exact HRi.out.put (k + n)
        go_ret
        exact HPOST.out
end Go.Proofs.YtdfgkngfpedgdaaDoor
