/-
  Promise P3: a file as a form of bytes; the walk of the reader's file.
-/
import Derived.Test.YtdfgkngfpedgdaaDoorBPaym
namespace Go.Proofs.YtdfgkngfpedgdaaDoor
open Go.RowKit

/-- Do the bytes of a file's head, its end and the whole of it fit? -/
def headQ (s : ByteArray) (j : Nat) : Bool := if j = 0 then eqB 70 (bt s j) else if j < 24 then digB (bt s j) else eqB 10 (bt s j)
def tailQ (s : ByteArray) (k j : Nat) : Bool := if j = 0 then eqB 69 (bt s (k + j)) else if j < 11 then digB (bt s (k + j)) else if j < 12 then eqB 10 (bt s (k + j)) else eqB (-1) (bt s (k + j))
def fileQ (s : ByteArray) (c j : Nat) : Bool := if j < 25 then headQ s j else if j < 25 + 45 * c then lineQ s (25 + 45 * ((j - 25) / 45)) ((j - 25) % 45) else tailQ s (25 + 45 * c) (j - (25 + 45 * c))
theorem fileQ_head (s : ByteArray) (c a j : Nat) (h : 1 ≤ a + j ∧ a + j < 24) : fileQ s c (a + j) = digB (bt s (a + j)) := by
  unfold fileQ headQ
  rw [if_pos (by omega), if_neg (by omega), if_pos h.2]
theorem fileQ_line (s : ByteArray) (c n j : Nat) (hn : n < c) (hj : j < 45) : fileQ s c (25 + 45 * n + j) = lineQ s (25 + 45 * n) j := by
  unfold fileQ
  rw [if_neg (by omega), if_pos (by omega), show (25 + 45 * n + j - 25) / 45 = n by omega, show (25 + 45 * n + j - 25) % 45 = j by omega]
theorem fileQ_tail (s : ByteArray) (c j : Nat) : fileQ s c (25 + 45 * c + j) = tailQ s (25 + 45 * c) j := by
  unfold fileQ
  rw [if_neg (by omega), if_neg (by omega), show 25 + 45 * c + j - (25 + 45 * c) = j by omega]
theorem tailQ_dig (s : ByteArray) (k j : Nat) (h : j < 10) : tailQ s k (1 + j) = digB (bt s (k + 1 + j)) := by
  unfold tailQ
  rw [if_neg (by omega), if_pos (by omega), Nat.add_assoc]
/-- The first n payments of a file. -/
def lnsOf (s : ByteArray) : Nat → List Py
  | 0 => []
  | n + 1 => lnsOf s n ++ [pyOf s (25 + 45 * n)]
theorem lnsOf_len (s : ByteArray) : ∀ n, (lnsOf s n).length = n
  | 0 => rfl
  | n + 1 => by rw [lnsOf, List.length_append, lnsOf_len s n]; rfl
theorem GrowP.keptB {w w' : World} {B b : Nat} {v : Value} {l : List Py} (h : GrowP w B v l) (hg : w.grownBy w' (some b)) (hb : b < B) : GrowP w' B v l :=
  World.ownsRow.kept h hg (.inr (fun e => by have := (GrowP.lt h b e).1; omega))
theorem Rd.grown {w w' : World} {b : Nat} {s : ByteArray} {k : Nat} {row : Option Nat} (h : Rd w b s k) (hg : w.grownBy w' row) (hb : some b ≠ row) : Rd w' b s k :=
  ⟨hg.cell h.1 hb, hg.cell h.2.1 hb, (World.frozen?_of_block (w := w) (hg.block b h.lt hb)).trans h.2.2⟩
theorem grown_drew {w w' : World} {row : Option Nat} (h : w.grownBy w' row) : w.grownBy w'.drew row := ⟨h.os, h.tape, h.output, h.size, h.block⟩
theorem numT_bd {s : ByteArray} {k n : Nat} (h : k + n ≤ s.size) (hd : ∀ j, j < n → digB (bt s (k + j)) = true) : 0 ≤ numT (s.extract k (k + n)) ∧ numT (s.extract k (k + n)) < 10 ^ n := by
  have := numN_bd (s := s.extract k (k + n)) (k := n) (fun j hj => by rw [bt_extract s k (k + n) j h (by omega)]; exact hd j hj)
  unfold numT
  rw [ext_size h]
  exact this
/-- What the reader's file comes to. -/
def FileIs (s : ByteArray) (b : Nat) (w : World) (e : Ending) (w' : World) : Prop :=
  w.grownBy w' (some b) ∧ ((∃ (c : Nat) (v : Value), numT (s.extract 6 (6 + 3)) = (c : Int) ∧ c ≤ 999 ∧ e = .returned (.tuple #[.int .i64 (numT (s.extract 1 (1 + 5))), v]) ∧ GrowP w' w.heap.size v (lnsOf s c) ∧ (∀ j, j < 25 + 45 * c + 13 → fileQ s c j = true) ∧ s.size = 25 + 45 * c + 12)
    ∨ ∃ c o : Nat, (o < 25 ∨ numT (s.extract 6 (6 + 3)) = (c : Int)) ∧ c ≤ 999 ∧ e = .panicked (gone 1 (o : Int)) ∧ Stops (fileQ s c) (25 + 45 * c + 13) o)
set_option maxRecDepth 100000 in
set_option maxHeartbeats 4000000 in
theorem file_any (b : Nat) (s : ByteArray) (w : World) (hr : Rd w b s 0) (hs : s.size ≤ 9223372036854775807) :
    Calls Tryd.prog 58 #[.pointer (some ⟨b, 0, none⟩)] w fun e w' => FileIs s b w e w' := by
  have hbw := hr.lt
  have HR0 := Lib.hid hr
  clear hr
  go_enter Tryd.func58, Tryd.ntmps58
  go_wp2_with fail
  refine (sign_any b s 0 70 _ (by omega) HR0.out (by omega) (by omega) hs).mono ?_
  rintro e w1 ⟨hg, ⟨rfl, h1, h2, h3⟩ | ⟨rfl, h1⟩⟩
  case' inr =>
    have HG := Lib.hid hg
    have H := Lib.hid h1
    clear hg h1
    go_wp2_with fail
    exact ⟨rfl, HG.out, .inr ⟨0, 0, .inl (by omega), by omega, rfl, by omega, fun j hj => by omega, H.out⟩⟩
  have HG1 := Lib.hid hg
  have HR1 := Lib.hid h2
  have HQ1 : Hid (∀ c j, j < 1 → fileQ s c j = true) := fun c j hj => by
    obtain rfl : j = 0 := by omega
    exact h1
  clear hg h1 h2 HR0
  go_wp2_with fail
  refine (digits_any b s 1 5 _ HR1.out h3 (by omega) (by omega) hs).mono ?_
  rintro e w2 ⟨hg, ⟨rfl, h1, h2, h4⟩ | ⟨o, ho, rfl, h1, h2⟩⟩
  case' inr =>
    have HG := Lib.hid (HG1.out.trans hg)
    have H := Lib.hid (stop (HQ1.out 0) ho h1 h2 (show 1 + 5 ≤ 25 + 45 * 0 + 13 by omega) (fun j hj => fileQ_head s 0 1 j (by omega)))
    clear hg
    go_wp2_with fail
    exact ⟨rfl, HG.out, .inr ⟨0, 1 + o, .inl (by omega), by omega, pan_at (by omega), H.out⟩⟩
  have HG2 := Lib.hid (HG1.out.trans hg)
  have HR2 := Lib.hid h2
  have HQ2 : Hid (∀ c j, j < 1 + 5 → fileQ s c j = true) := fun c => more (HQ1.out c) h1 (fun j hj => fileQ_head s c 1 j (by omega))
  have HNM := Lib.hid (fun w => num_any h4 (by omega) h1 w)
  clear hg h1 h2 HR1 HG1 HQ1
  go_wp2_with fail
  refine (HNM.out _).mono ?_
  rintro e w3 ⟨rfl, hb3⟩
  have HG3 := Lib.hid (grown_below HG2.out hb3)
  have HR3 := Lib.hid (HR2.out.below hb3 HR2.out.lt)
  clear hb3 HG2 HR2 HNM
  obtain ⟨day, hday⟩ : ∃ day, numT (s.extract 1 (1 + 5)) = day := ⟨_, rfl⟩
  have HDAY := Lib.hid hday
  rw [hday]
  clear hday
  go_wp2_with fail
  refine (digits_any b s 6 3 _ HR3.out h4 (by omega) (by omega) hs).mono ?_
  rintro e w4 ⟨hg, ⟨rfl, h1, h2, h5⟩ | ⟨o, ho, rfl, h1, h2⟩⟩
  case' inr =>
    have HG := Lib.hid (HG3.out.trans hg)
    have H := Lib.hid (stop (HQ2.out 0) ho h1 h2 (show 1 + 5 + 3 ≤ 25 + 45 * 0 + 13 by omega) (fun j hj => fileQ_head s 0 6 j (by omega)))
    clear hg
    go_wp2_with fail
    exact ⟨rfl, HG.out, .inr ⟨0, 6 + o, .inl (by omega), by omega, pan_at (by omega), H.out⟩⟩
  have HG4 := Lib.hid (HG3.out.trans hg)
  have HR4 := Lib.hid h2
  have HQ4 : Hid (∀ c j, j < 1 + 5 + 3 → fileQ s c j = true) := fun c => more (HQ2.out c) h1 (fun j hj => fileQ_head s c 6 j (by omega))
  have HNM := Lib.hid (fun w => num_any h5 (by omega) h1 w)
  have hbd := numT_bd h5 h1
  clear hg h1 h2 HR3 HG3 HQ2
  obtain ⟨c, hc⟩ : ∃ c : Nat, numT (s.extract 6 (6 + 3)) = (c : Int) := ⟨(numT (s.extract 6 (6 + 3))).toNat, by omega⟩
  have HC := Lib.hid hc
  rw [hc] at HNM hbd
  have hc9 : c ≤ 999 := by omega
  clear hbd hc
  go_wp2_with fail
  refine (HNM.out _).mono ?_
  rintro e w5 ⟨rfl, hb5⟩
  have HG5 := Lib.hid (grown_below HG4.out hb5)
  have HR5 := Lib.hid (HR4.out.below hb5 HR4.out.lt)
  clear hb5 HG4 HR4 HNM
  go_wp2_with fail
  refine (digits_any b s 9 15 _ HR5.out h5 (by omega) (by omega) hs).mono ?_
  rintro e w6 ⟨hg, ⟨rfl, h1, h2, h6⟩ | ⟨o, ho, rfl, h1, h2⟩⟩
  case' inr =>
    have HG := Lib.hid (HG5.out.trans hg)
    have H := Lib.hid (stop (HQ4.out 0) ho h1 h2 (show 1 + 5 + 3 + 15 ≤ 25 + 45 * 0 + 13 by omega) (fun j hj => fileQ_head s 0 9 j (by omega)))
    clear hg
    go_wp2_with fail
    exact ⟨rfl, HG.out, .inr ⟨0, 9 + o, .inl (by omega), by omega, pan_at (by omega), H.out⟩⟩
  have HG6 := Lib.hid (HG5.out.trans hg)
  have HR6 := Lib.hid h2
  have HQ6 : Hid (∀ c j, j < 1 + 5 + 3 + 15 → fileQ s c j = true) := fun c => more (HQ4.out c) h1 (fun j hj => fileQ_head s c 9 j (by omega))
  clear hg h1 h2 HR5 HG5 HQ4
  go_wp2_with fail
  refine (sign_any b s 24 10 _ (by omega) HR6.out h6 (by omega) hs).mono ?_
  rintro e w7 ⟨hg, ⟨rfl, h1, h2, h7⟩ | ⟨rfl, h1⟩⟩
  case' inr =>
    have HG := Lib.hid (HG6.out.trans hg)
    have H : Hid (Stops (fileQ s 0) (25 + 45 * 0 + 13) 24) := ⟨by omega, HQ6.out 0, h1⟩
    clear hg h1
    go_wp2_with fail
    exact ⟨rfl, HG.out, .inr ⟨0, 24, .inl (by omega), by omega, rfl, H.out⟩⟩
  have HG7 := Lib.hid (HG6.out.trans hg)
  have HR7 := Lib.hid h2
  have HQ7 : Hid (∀ c j, j < 25 + 45 * 0 → fileQ s c j = true) := fun c j hj => by
    rcases (show j < 24 ∨ j = 24 by omega) with h | rfl
    · exact HQ6.out c j h
    · exact h1
  clear hg h1 h2 HR6 HG6 HQ6
  go_wp2_with fail
  go_loopw [6, 20] (fun v i wr => ∃ n : Nat, n ≤ c ∧ i = .int .i64 n ∧ GrowP wr w.heap.size v (lnsOf s n) ∧ Rd wr b s (25 + 45 * n) ∧ w.grownBy wr (some b) ∧ (∀ j, j < 25 + 45 * n → fileQ s c j = true) ∧ 25 + 45 * n ≤ s.size) (fun _ i _ => c - (intOf i).toNat)
  case atStart => exact ⟨0, Nat.zero_le _, rfl, GrowP.nil _ _, HR7.out, HG7.out, HQ7.out c, h7⟩
  case round =>
    clear HG7 HR7 HQ7 h3 h4 h5 h6 h7
    obtain ⟨n, hn, rfl, hgp, hr, hg, hq, hks⟩ := hrel
    have HGP := Lib.hid hgp
    have HR := Lib.hid hr
    have HG := Lib.hid hg
    have HQ := Lib.hid hq
    obtain ⟨xa, xc, hv, _⟩ := hgp.slice
    subst hv
    clear hgp hr hg hq
    have hLn := lnsOf_len s n
    rw [hLn] at HGP
    have HLN := Lib.hid hLn
    by_cases hlt : n < c
    · have hlt' : (n : Int) < (c : Int) := by omega
      have HLS : Hid (lnsOf s (n + 1) = lnsOf s n ++ [pyOf s (25 + 45 * n)]) := rfl
      clear hLn
      rw [HLN.out]
      go_wp2_with fail
      refine (payment_any b s (25 + 45 * n) _ HR.out hks (by omega) hs).mono ?_
      rintro e w2 ⟨hg, ⟨rfl, h1, h2, h3⟩ | ⟨o, rfl, h1⟩⟩
      case' inr =>
        have HG2 := Lib.hid (HG.out.trans hg)
        have H := Lib.hid (stop HQ.out h1.1 h1.2.1 h1.2.2 (show 25 + 45 * n + 45 ≤ 25 + 45 * c + 13 by omega) (fun j hj => fileQ_line s c n j hlt hj))
        clear hg h1
        go_wp2_with fail
        exact ⟨rfl, HG2.out, .inr ⟨c, 25 + 45 * n + o, .inr HC.out, hc9, pan_at (by omega), H.out⟩⟩
      have HG2 := Lib.hid (HG.out.trans hg)
      have HGP2 := Lib.hid (HGP.out.keptB hg hbw)
      have HR2 := Lib.hid h2
      have HQ2 := Lib.hid (more HQ.out h1 (fun j hj => fileQ_line s c n j hlt hj))
      clear hg h1 h2 HG HGP HR HQ
      generalize pyOf s (25 + 45 * n) = pk at *
      have hsz2 : w.heap.size ≤ w2.heap.size := HG2.out.size
      go_wp2_with (at_builtin; go_loud (refine wpList_appP _ rfl _ _ rfl w.heap.size _ (lnsOf s n) rfl ?hgw _ 1 pk rfl ?h0 ?h1 ?h2 ?h3 ?hl ?hB ?_; rotate_right; intro v9 w9 hg9 hgr9 hd9 hb9; refine Hid.out ?_))
      case hgw => exact HGP2.out.alloc _
      all_goals try (case h0 => simp)
      all_goals try (case h1 => simp)
      all_goals try (case h2 => simp)
      all_goals try (case h3 => simp)
      case hl => rw [HLN.out]; omega
      case hB => simp; omega
      have HG9 := Lib.hid ((HG2.out.trans (World.grownBy_alloc w2 (.cells #[.string pk.acc, .string pk.nam, .int .i64 pk.mon, .int .i64 pk.ref] 46) (some b))).andThen hgr9 (fun j hj => .inl (GrowP.lt HGP2.out j hj).1))
      have HR9 := Lib.hid ((HR2.out.alloc (.cells #[.string pk.acc, .string pk.nam, .int .i64 pk.mon, .int .i64 pk.ref] 46)).grown hgr9 (fun e => by have := (GrowP.lt HGP2.out b e.symm).1; omega))
      have HGP9 := Lib.hid hg9
      rw [← HLS.out] at HGP9
      clear hg9 hgr9 hd9 hb9
      refine Lib.hid ?_
      go_wp2_with fail
      go_roundw
      case rel => exact ⟨n + 1, hlt, by go_num, HGP9.out, HR9.out, HG9.out, HQ2.out, h3⟩
      case measure => simp [intOf]; omega
    · obtain rfl : n = c := by omega
      have hltB : decide ((n : Int) < (n : Int)) = false := decide_eq_false (by omega)
      clear hLn
      rw [HLN.out]
      go_wp2_with fail
      refine (sign_any b s (25 + 45 * n) 69 _ (by omega) HR.out hks (by omega) hs).mono ?_
      rintro e w1 ⟨hg, ⟨rfl, h1, h2, h3⟩ | ⟨rfl, h1⟩⟩
      case' inr =>
        have HG2 := Lib.hid (HG.out.trans hg)
        have H : Hid (Stops (fileQ s n) (25 + 45 * n + 13) (25 + 45 * n)) := ⟨by omega, HQ.out, (fileQ_tail s n 0).trans h1⟩
        clear hg h1
        go_wp2_with fail
        exact ⟨rfl, HG2.out, .inr ⟨n, 25 + 45 * n, .inr HC.out, hc9, rfl, H.out⟩⟩
      have HG1 := Lib.hid (HG.out.trans hg)
      have HGP1 := Lib.hid (HGP.out.keptB hg hbw)
      have HR1 := Lib.hid h2
      have HQ1 : Hid (∀ j, j < 25 + 45 * n + 1 → fileQ s n j = true) := fun j hj => by
        rcases (show j < 25 + 45 * n ∨ j = 25 + 45 * n by omega) with h | rfl
        · exact HQ.out j h
        · exact (fileQ_tail s n 0).trans h1
      clear hg h1 h2 HG HGP HR HQ
      go_wp2_with fail
      refine (digits_any b s (25 + 45 * n + 1) 10 _ HR1.out h3 (by omega) (by omega) hs).mono ?_
      rintro e w2 ⟨hg, ⟨rfl, h1, h2, h4⟩ | ⟨o, ho, rfl, h1, h2⟩⟩
      case' inr =>
        have HG2 := Lib.hid (HG1.out.trans hg)
        have H := Lib.hid (stop HQ1.out ho h1 h2 (show 25 + 45 * n + 1 + 10 ≤ 25 + 45 * n + 13 by omega) (fun j hj => (congrArg (fileQ s n) (Nat.add_assoc _ 1 j)).trans ((fileQ_tail s n (1 + j)).trans (tailQ_dig s _ j hj))))
        clear hg h1 h2
        go_wp2_with fail
        exact ⟨rfl, HG2.out, .inr ⟨n, 25 + 45 * n + 1 + o, .inr HC.out, hc9, pan_at (by omega), H.out⟩⟩
      have HG2 := Lib.hid (HG1.out.trans hg)
      have HGP2 := Lib.hid (HGP1.out.keptB hg hbw)
      have HR2 := Lib.hid h2
      have HQ2 := Lib.hid (more HQ1.out h1 (fun j hj => (congrArg (fileQ s n) (Nat.add_assoc _ 1 j)).trans ((fileQ_tail s n (1 + j)).trans (tailQ_dig s _ j hj))))
      clear hg h1 h2 HG1 HGP1 HR1 HQ1
      go_wp2_with fail
      refine (sign_any b s (25 + 45 * n + 11) 10 _ (by omega) HR2.out h4 (by omega) hs).mono ?_
      rintro e w3 ⟨hg, ⟨rfl, h1, h2, h5⟩ | ⟨rfl, h1⟩⟩
      case' inr =>
        have HG3 := Lib.hid (HG2.out.trans hg)
        have H : Hid (Stops (fileQ s n) (25 + 45 * n + 13) (25 + 45 * n + 11)) := ⟨by omega, HQ2.out, (fileQ_tail s n 11).trans h1⟩
        clear hg h1
        go_wp2_with fail
        exact ⟨rfl, HG3.out, .inr ⟨n, 25 + 45 * n + 11, .inr HC.out, hc9, rfl, H.out⟩⟩
      have HG3 := Lib.hid (HG2.out.trans hg)
      have HGP3 := Lib.hid (HGP2.out.keptB hg hbw)
      have HR3 := Lib.hid h2
      have HQ3 : Hid (∀ j, j < 25 + 45 * n + 12 → fileQ s n j = true) := fun j hj => by
        rcases (show j < 25 + 45 * n + 11 ∨ j = 25 + 45 * n + 11 by omega) with h | rfl
        · exact HQ2.out j h
        · exact (fileQ_tail s n 11).trans h1
      clear hg h1 h2 HG2 HGP2 HR2 HQ2
      obtain ⟨x0, x1, x2⟩ := HR3.out
      by_cases hend : 25 + 45 * n + 12 < s.size
      · have hend' : ((25 + 45 * n + 12 : Nat) : Int) < (s.size : Int) := by omega
        have H : Hid (Stops (fileQ s n) (25 + 45 * n + 13) (25 + 45 * n + 12)) := ⟨by omega, HQ3.out, by
          rw [fileQ_tail]
          show eqB (-1) (bt s (25 + 45 * n + 12)) = false
          exact decide_eq_false (by rw [bt_in hend]; omega)⟩
        obtain ⟨m, hm⟩ : ∃ m, 25 + 45 * n + 12 = m := ⟨_, rfl⟩
        have x1' : w3.cell? ⟨b, 1, none⟩ = some (.int .i64 (m : Int)) := by rw [← hm]; exact x1
        have hend'' : (m : Int) < (s.size : Int) := by omega
        have HM := Lib.hid hm
        clear x1 hm hend hend'
        go_wp2_with fail
        go_region
        go_wp2_with fail
        refine (giveUp_any _ _ _).mono ?_
        rintro e w4 ⟨rfl, rfl⟩
        go_wp2_with fail
        exact ⟨rfl, grown_drew HG3.out, .inr ⟨n, m, .inr HC.out, hc9, rfl, HM.out ▸ H.out⟩⟩
      · have hsz : s.size = 25 + 45 * n + 12 := by omega
        obtain ⟨m, hm⟩ : ∃ m, 25 + 45 * n + 12 = m := ⟨_, rfl⟩
        have x1' : w3.cell? ⟨b, 1, none⟩ = some (.int .i64 (m : Int)) := by rw [← hm]; exact x1
        have hendB : decide ((m : Int) < (s.size : Int)) = false := decide_eq_false (by omega)
        have hendC : decide (m < s.size) = false := decide_eq_false (by omega)
        have HQF : Hid (∀ j, j < 25 + 45 * n + 13 → fileQ s n j = true) := fun j hj => by
          rcases (show j < 25 + 45 * n + 12 ∨ j = 25 + 45 * n + 12 by omega) with h | rfl
          · exact HQ3.out j h
          · rw [fileQ_tail]
            show eqB (-1) (bt s (25 + 45 * n + 12)) = true
            exact decide_eq_true (bt_out (by omega))
        have HSZ := Lib.hid hsz
        clear x1 hm hend hsz
        go_wp2_with fail
        go_region
        go_wp2_with fail
        go_ret2
        exact ⟨grown_drew HG3.out, .inl ⟨n, _, HC.out, hc9, by rw [HDAY.out]; rfl, HGP3.out.below (Below.refl _ _).drew, HQF.out, HSZ.out⟩⟩
end Go.Proofs.YtdfgkngfpedgdaaDoor
