/-
  Promise H3: the walk of Uses; what must be in any case (bindBegun).
-/
import Derived.Test.YtoingnhiipfnlaaDoorNUses
import Derived.Test.YtoingnhiipfnlaaDoorNRefL
namespace Go.Proofs.YtoingnhiipfnlaaDoor
open Go.RowKit

def UsesRet (w : World) (l : List Ln) (line : Int) (e : Ending) (w' : World) : Prop := ∃ (v : Value) (er : Int), e = .returned (.tuple #[v, .int .i64 er]) ∧ ((linesE l ≠ 0 ∧ er = linesE l ∧ v = .slice none 0 0) ∨ (linesE l = 0 ∧ (line < 0 ∨ (l.length : Int) ≤ line) ∧ er = 3 ∧ v = .slice none 0 0) ∨ (linesE l = 0 ∧ er = 0 ∧ ∃ p : Nat, line = p ∧ p < l.length ∧ ∃ B, w.heap.size ≤ B ∧ Grow w' B v (placesOf (usedN (l.take (p + 1)) p (p + 1)) p))) ∧ Below w.heap.size w w'
set_option maxRecDepth 100000 in
set_option maxHeartbeats 1000000 in
theorem Uses_any (a : Option Addr) (n cap : Nat) (l : List Ln) (line : Int) (w : World) (hS : Shp w) (hl : CameL w a l) (hn : l.length = n) (hcap : n ≤ cap) (hcm : cap ≤ maxLen) :
    Calls Tryd.prog 14 #[.slice a n cap, .int .i64 line] w fun e w' => UsesRet w l line e w' := by
  have hm' : n ≤ 9223372036854775807 := by unfold maxLen at hcm; omega
  have hcm' : cap ≤ 9223372036854775807 := by unfold maxLen at hcm; omega
  have HCM := Lib.hid hcm
  have HL := Lib.hid hl
  have HN := Lib.hid hn
  have HS := Lib.hid hS
  clear hl hn hS
  go_enter Tryd.func14, Tryd.ntmps14
  go_wp2_with fail
  refine (check_lines a n cap l _ HS.out HL.out HN.out (by omega)).mono ?_
  rintro e w1 ⟨rfl, hb1⟩
  have HB1 := Lib.hid hb1
  clear hb1
  by_cases z1 : linesE l = 0
  · have HZ1 := Lib.hid z1
    rw [z1]
    clear z1
    by_cases c1 : line < 0
    · have HR : Hid ((line < 0 ∨ (l.length : Int) ≤ line)) := .inl c1
      go_wp2_with fail
      go_ret2
      exact ⟨_, _, rfl, .inr (.inl ⟨HZ1.out, HR.out, rfl, rfl⟩), HB1.out⟩
    · have c1B : decide (line < 0) = false := decide_eq_false c1
      obtain ⟨p, rfl⟩ : ∃ p : Nat, line = (p : Int) := ⟨line.toNat, by omega⟩
      by_cases c2 : n ≤ p
      · have c2' : (n : Int) ≤ (p : Int) := by omega
        have HR : Hid (((p : Int) < 0 ∨ (l.length : Int) ≤ (p : Int))) := .inr (by have := HN.out; omega)
        go_wp2_with fail
        go_ret2
        exact ⟨_, _, rfl, .inr (.inl ⟨HZ1.out, HR.out, rfl, rfl⟩), HB1.out⟩
      · have c2B : decide ((n : Int) ≤ (p : Int)) = false := decide_eq_false (by omega)
        have c2N : decide (n ≤ p) = false := decide_eq_false c2
        have h40 : n ≤ 40 := by have := linesE_40 HZ1.out; have := HN.out; omega
        have hs1 : ((p : Int) + 1) ≤ (cap : Int) := by omega
        have hs2 : ((p : Int) + 1).toNat = p + 1 := by omega
        have hs3 : (0 : Int) ≤ (p : Int) + 1 := by omega
        have hs4 : p + 1 ≤ cap := by omega
        go_wp2_with fail
        refine (hangsOn_any a p cap (l.take (p + 1)) _ ((HL.out.take (by have := HN.out; omega)).below HB1.out) (by have := HN.out; simp; omega) (by omega) (by omega) HCM.out).mono ?_
        rintro e w2 ⟨v, rfl, hg, hb2⟩
        have HG := Lib.hid hg
        have HB2 := Lib.hid (HB1.out.trans (hb2.mono HB1.out.size))
        clear hg hb2
        go_wp2_with fail
        go_ret2
        exact ⟨_, _, rfl, .inr (.inr ⟨HZ1.out, rfl, p, rfl, by have := HN.out; omega, w1.heap.size + 1, by have := HB1.out.size; omega, HG.out⟩), HB2.out⟩
  · have z1B : decide (linesE l = 0) = false := decide_eq_false z1
    have z1N : (linesE l != 0) = true := by simpa using z1
    have HZ1 := Lib.hid z1
    generalize hz : linesE l = z at *
    have HZZ := Lib.hid hz
    clear hz
    go_wp2_with fail
    go_ret2
    exact ⟨_, _, rfl, .inl ⟨by rw [HZZ.out]; exact HZ1.out, by rw [HZZ.out], rfl⟩, HB1.out⟩
def exB : Ex := .mk 1 0 ByteArray.empty 0 (fun _ => .no)
def exA : Ex := .mk 2 0 ⟨#[98]⟩ 0 (fun _ => .no)
def lnB : Ln := ⟨4, ⟨#[98]⟩, exB⟩
def lnA : Ln := ⟨4, ⟨#[97]⟩, exA⟩
def knO : Kn := ⟨[], [], []⟩
theorem begun_lines : linesE [lnA] = 0 ∧ linesE [lnB, lnA] = 0 ∧ knE knO = 0 := by decide +kernel
theorem begun_ok : lineOk [lnA] knO 0 = 5 := by decide +kernel
theorem begun_uses : placesOf (usedN ([lnB, lnA].take (1 + 1)) 1 (1 + 1)) 1 = [0] := by decide +kernel
theorem begun_bind {i e : Int} (h : BindIs [lnA] knO i e) : i = 0 ∧ e = 5 :=
  h.unique (.inr (.inr ⟨begun_lines.1, begun_lines.2.2, .inr ⟨0, by decide, rfl, begun_ok.symm, by omega, fun q hq => by omega⟩⟩))
theorem begun_known (w : World) : CameK w none none none knO :=
  ⟨.inl rfl, .inl rfl, .inl rfl, fun j hj => by simp [knO] at hj, fun j hj => by simp [knO] at hj, by simp [knO], by simp [knO], by simp [knO]⟩
end Go.Proofs.YtoingnhiipfnlaaDoor
