/-
  The walk of the law TokenSpaced: it answers true at every text.
-/
import Derived.Test.YtgiacemmigjloaaDoorTJoin
namespace Go.Proofs.YtgiacemmigjloaaDoor
open Go.RowKit

theorem qret_bool {a b : Bool} (h : a = b) : Ending.returned (.bool a) = .returned (.bool b) := by rw [h]
theorem qbelow_dN {B : Nat} {a w : World} (h : Below B a w) (k : Nat) : Below B a (w.drewN k) := h.trans ⟨rfl, rfl, rfl, Nat.le_refl _, fun _ _ => rfl⟩
theorem TAt.put {w : World} {b : Nat} {l : List Tk} (h : TAt w b l) {a : Addr} (ha : a.block ≠ b) (u : Value) : TAt (w.setCell a u) b l := by
  have ne : ∀ o, a ≠ ⟨b, o, none⟩ := fun o e => ha (by rw [e])
  refine ⟨by simp; exact h.1, fun j hj => ?_⟩
  obtain ⟨h0, h1, h2, h3, h4⟩ := h.2 j hj
  refine ⟨?_, ?_, ?_, ?_, ?_⟩
  · rw [World.cell?_setCell_other (h := ne _)]; exact h0
  · rw [World.cell?_setCell_other (h := ne _)]; exact h1
  · rw [World.cell?_setCell_other (h := ne _)]; exact h2
  · rw [World.cell?_setCell_other (h := ne _)]; exact h3
  · rw [World.cell?_setCell_other (h := ne _)]; exact h4
/-- A list of tokens, nil or in a block that is not b. -/
def TkL (w : World) (b : Nat) (x : Option Addr) (l : List Tk) : Prop := 0 < l.length → ∃ g, x = some ⟨g, 0, none⟩ ∧ g ≠ b ∧ TAt w g l
theorem TkL.below {w w' : World} {b : Nat} {x : Option Addr} {l : List Tk} (h : TkL w b x l) (hb : Below w.heap.size w w') : TkL w' b x l := fun h0 => by
  obtain ⟨g, h1, h2, h3⟩ := h h0
  exact ⟨g, h1, h2, h3.below hb h3.1⟩
theorem TkL.put {w : World} {b o : Nat} {x : Option Addr} {l : List Tk} (h : TkL w b x l) (u : Value) : TkL (w.setCell ⟨b, o, none⟩ u) b x l := fun h0 => by
  obtain ⟨g, h1, h2, h3⟩ := h h0
  exact ⟨g, h1, h2, h3.put (fun e => h2 e.symm) u⟩
theorem GrowT.tkl {w : World} {B b : Nat} {x : Option Addr} {n c : Nat} {l : List Tk} (h : GrowT w B (.slice x n c) l) (hb : ∀ g, B ≤ g → g < w.heap.size → g ≠ b) : TkL w b x l := fun h0 => by
  rcases h.form with ⟨_, h2⟩ | ⟨g, c', hsl, hB, hat⟩
  · subst h2; exact absurd h0 (by simp)
  · cases hsl
    exact ⟨g, rfl, hb g hB hat.1, hat⟩
theorem jn_one (L : List Tk) : Jn L 1 = (⟨#[]⟩ : ByteArray) ++ (tnth L 0).txt := rfl
theorem jn_more (L : List Tk) {j : Nat} (h : 0 < j) : Jn L (j + 1) = Jn L j ++ ⟨#[32]⟩ ++ (tnth L j).txt := by
  show (if 0 < j then Jn L j ++ ⟨#[32]⟩ else Jn L j) ++ (tnth L j).txt = _
  rw [if_pos h]
set_option maxRecDepth 100000 in
set_option maxHeartbeats 2000000 in
theorem walk_tokenSpaced (s : ByteArray) (hs : s.size ≤ 140737488351232) (w : World) (hT : TabE w) :
    Calls Tryd.prog 6 #[.string s] w fun e w' => e = .returned (.bool true) ∧ Below w.heap.size w w' := by
  have HT := Lib.hid hT
  clear hT
  go_enter Tryd.func6, Tryd.ntmps6
  go_wp2_with fail
  refine (begun_any w HT.out).mono ?_
  rintro e w1 ⟨rfl, hb1⟩
  have HB1 := Lib.hid hb1
  clear hb1
  go_wp2_with fail
  refine (Split_any s _ (by omega) (HT.out.below HB1.out)).mono ?_
  rintro e w2 ⟨v, er, at', rfl, hsp, hb⟩
  have HB2 := Lib.hid (HB1.out.trans (hb.mono HB1.out.size))
  clear hb
  rcases hsp with ⟨h4, rfl, rfl, rfl⟩ | ⟨h4, ⟨L, hT, hG, rfl, rfl⟩ | ⟨a, L, o, hT, ha, hf, rfl, rfl⟩⟩
  · go_wp2_with fail
    go_ret
    exact ⟨rfl, HB2.out.alloc HB2.out.size _⟩
  · have hlen := hT.len
    have HGd := Lib.hid (toks_good hT)
    have HJ := Lib.hid (jn_bound (toks_stand hT).2)
    obtain ⟨x, c, rfl⟩ := hG.slice
    have HK := Lib.hid ((hG.tkl (b := w2.heap.size) (fun g _ hg => by omega)).below ((Below.refl _ _).alloc (Nat.le_refl _) (.cells #[.int .i64 0, .int .i64 0] 25)))
    have HG := Lib.hid (hG.alloc (.cells #[.int .i64 0, .int .i64 0] 25))
    have HBF := Lib.hid (HB2.out.alloc HB2.out.size (.cells #[.int .i64 0, .int .i64 0] 25))
    have z0 : (w2.alloc (.cells #[.int .i64 0, .int .i64 0] 25)).cell? ⟨w2.heap.size, 0, none⟩ = some (.int .i64 0) := by simp
    have z1 : (w2.alloc (.cells #[.int .i64 0, .int .i64 0] 25)).cell? ⟨w2.heap.size, 1, none⟩ = some (.int .i64 0) := by simp
    have f0 : (w2.alloc (.cells #[.int .i64 0, .int .i64 0] 25)).frozen? ⟨w2.heap.size, 0, none⟩ = false := by simp
    have f1 : (w2.alloc (.cells #[.int .i64 0, .int .i64 0] 25)).frozen? ⟨w2.heap.size, 1, none⟩ = false := by simp
    have hsz : w2.heap.size < (w2.alloc (.cells #[.int .i64 0, .int .i64 0] 25)).heap.size := by simp
    have hBw2 : w.heap.size ≤ w2.heap.size := HB2.out.size
    clear hT hG
    go_wp2_with fail
    generalize w2.alloc (.cells #[.int .i64 0, .int .i64 0] 25) = W at *
    go_loop [5, 6] (fun t i => ∃ j : Nat, j ≤ L.length ∧ i = .int .i64 j ∧ t = .string (Jn L j)) (fun _ i => L.length - (intOf i).toNat)
    case atStart => exact ⟨0, Nat.zero_le _, rfl, rfl⟩
    case round =>
      obtain ⟨j, hj, rfl, rfl⟩ := hrel
      have hbd := HJ.out j hj
      have hbd4 : (Jn L j).size ≤ 8000 := by
        by_cases h0 : 0 < j
        · have := hbd.2 h0; omega
        · have e : j = 0 := by omega
          subst e
          exact Nat.zero_le _
      by_cases hlt : j < L.length
      · have hlt' : (j : Int) < (L.length : Int) := by omega
        have hbd' := HJ.out (j + 1) hlt
        have hsj := jn_size L j
        have hpl : (Jn L j).size ≤ place L j := by unfold place; omega
        have htx : (tnth L j).txt.size ≤ 8001 := by have := hbd'.2 (by omega); omega
        rcases HG.out.form with ⟨_, h⟩ | ⟨g, c', hsl, hB, hat⟩
        · subst h; exact absurd hlt (by simp)
        cases hsl
        obtain ⟨_, y1, _, _, _⟩ := hat.2 j hlt
        clear hat
        by_cases h0 : 0 < j
        · have h0' : (0 : Int) < (j : Int) := by omega
          have HN := Lib.hid (jn_more L h0)
          have s1 : (Jn L j).size + ByteArray.size ⟨#[32]⟩ ≤ 9223372036854775807 := by have : ByteArray.size ⟨#[32]⟩ = 1 := rfl; omega
          have s2 : (Jn L j ++ ⟨#[32]⟩).size + (tnth L j).txt.size ≤ 9223372036854775807 := by rw [ByteArray.size_append]; have : ByteArray.size ⟨#[32]⟩ = 1 := rfl; omega
          go_wp2_with fail
          go_round
          case rel => exact ⟨j + 1, by omega, by go_num, by rw [HN.out]⟩
          case measure => simp [intOf]; omega
        · obtain rfl : j = 0 := by omega
          have HN := Lib.hid (jn_one L)
          have s1 : (Jn L 0).size + (tnth L 0).txt.size ≤ 9223372036854775807 := by omega
          go_wp2_with fail
          go_round
          case rel => exact ⟨0 + 1, by omega, by go_num, by rw [HN.out]; rfl⟩
          case measure => simp [intOf]; omega
      · obtain rfl : j = L.length := by omega
        have hnl : decide ((L.length : Int) < (L.length : Int)) = false := decide_eq_false (by omega)
        by_cases h40 : 4000 < (Jn L L.length).size
        · have h40' : (4000 : Int) < ((Jn L L.length).size : Int) := by omega
          go_wp2_with fail
          go_ret
          exact ⟨rfl, HBF.out⟩
        · have h40' : decide ((4000 : Int) < ((Jn L L.length).size : Int)) = false := decide_eq_false (by omega)
          go_wp2_with fail
          refine (Split_any (Jn L L.length) _ (by omega) (HT.out.below HBF.out)).mono ?_
          rintro e w5 ⟨v5, er5, at5, rfl, hsp, hb⟩
          rcases hsp with ⟨h, _⟩ | ⟨_, hsp⟩
          · exact absurd h h40
          obtain ⟨M, hM, rfl, rfl, hlM, hall⟩ := spaced_split HGd.out hsp
          obtain ⟨x5, c5, rfl⟩ := hM.slice
          have HKM := Lib.hid ((hM.tkl (b := w2.heap.size) (fun g hg _ => by omega)))
          have HK5 := Lib.hid (HK.out.below hb)
          have HB5 := Lib.hid (HBF.out.trans (hb.mono HBF.out.size))
          have c0 := (hb.cell (p := ⟨w2.heap.size, 0, none⟩) hsz).trans z0
          have c1 := (hb.cell (p := ⟨w2.heap.size, 1, none⟩) hsz).trans z1
          have g0 := (hb.frozen (p := ⟨w2.heap.size, 0, none⟩) hsz).trans f0
          have g1 := (hb.frozen (p := ⟨w2.heap.size, 1, none⟩) hsz).trans f1
          have HALL := Lib.hid hall
          rw [hlM]
          clear hb hM hall z0 z1 f0 f1 hsp HK HG HJ
          obtain ⟨d0, d1⟩ := fault_put (e := 0) (f := 0) c0 c1
          have HKa := Lib.hid ((HK5.out.put (o := 0) (.int .i64 0)).put (o := 1) (.int .i64 0))
          have HKb := Lib.hid ((HKM.out.put (o := 0) (.int .i64 0)).put (o := 1) (.int .i64 0))
          have HB6 := Lib.hid ((HB5.out.setCell (p := ⟨w2.heap.size, 0, none⟩) (by simp; omega) (.int .i64 0)).setCell (p := ⟨w2.heap.size, 1, none⟩) (by simp; omega) (.int .i64 0))
          go_wp2_with fail
          generalize ((w5.setCell ⟨w2.heap.size, 0, none⟩ (.int .i64 0)).setCell ⟨w2.heap.size, 1, none⟩ (.int .i64 0)) = W6 at *
          clear c0 c1 g0 g1
          go_loopw [8] (fun i wr => ∃ j : Nat, j ≤ L.length ∧ i = .int .i64 j ∧ Below W6.heap.size W6 wr) (fun i _ => L.length - (intOf i).toNat)
          case atStart => exact ⟨0, Nat.zero_le _, rfl, Below.refl _ _⟩
          case round =>
            obtain ⟨j, hj', rfl, hbr⟩ := hrel
            have HBR := Lib.hid hbr
            have HBW := Lib.hid (HB6.out.trans (hbr.mono HB6.out.size))
            clear hbr
            by_cases hlt : j < L.length
            · have hlt' : (j : Int) < (L.length : Int) := by omega
              obtain ⟨ga, rfl, _, hata⟩ := HKa.out.below HBR.out (by omega)
              obtain ⟨gb, rfl, _, hatb⟩ := HKb.out.below HBR.out (by omega)
              obtain ⟨y0, y1, y2, y3, _⟩ := hata.2 j hlt
              obtain ⟨v0, v1, v2, v3, _⟩ := hatb.2 j (by omega)
              obtain ⟨e0, e1, e2, e3⟩ := HALL.out j hlt
              rw [e0] at v0
              rw [e1] at v1
              rw [e2] at v2
              rw [e3] at v3
              clear hata hatb e0 e1 e2 e3
              generalize (tnth L j).k = tk at *
              generalize (tnth L j).txt = tx at *
              generalize (tnth L j).num = tn at *
              generalize (tnth L j).pt = tp at *
              have n0 : (tk != tk) = false := by simp
              have n1 : (tx.toList != tx.toList) = false := by simp
              have n2 : (tn != tn) = false := by simp
              have n3 : (tp != tp) = false := by simp
              go_wp2_with fail
              go_quiet (fail)
              go_wp2_with fail
              go_roundw
              case rel => exact ⟨j + 1, by omega, by go_num, qbelow_dN HBR.out _⟩
              case measure => simp [intOf]; omega
            · have hnl : decide ((j : Int) < (L.length : Int)) = false := decide_eq_false (by omega)
              go_wp2_with fail
              go_ret
              exact ⟨rfl, HBW.out⟩
  · have he : er ≠ 0 := by rcases (bad_err hf).1 with h | h <;> omega
    have heB : decide (er = 0) = false := decide_eq_false he
    have heE : (er != 0) = true := by simp [he]
    clear hT hf
    go_wp2_with fail
    go_ret
    exact ⟨rfl, HB2.out.alloc HB2.out.size _⟩
end Go.Proofs.YtgiacemmigjloaaDoor
