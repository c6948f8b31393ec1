/-
  Promise P2, of rules: the walk of the reference's Tokens over a text that the program splits.
-/
import Derived.Test.YtmlpedgcpffpnaaGreatDoorKZ0
import Derived.Test.YtmlpedgcpffpnaaGreatDoorKR1
import Derived.Test.YtmlpedgcpffpnaaGreatDoorKR2
import Derived.Deep.CutRange
import Derived.Deep.CutBlock
set_option linter.unusedSimpArgs false
set_option maxRecDepth 100000
set_option maxHeartbeats 8000000
namespace Go.Proofs.YtmlpedgcpffpnaaGreatDoor
open Go.RowKit
set_option linter.unusedVariables false
theorem tokens_ref (s : ByteArray) (T : List Tk) (w : World) (hT : Toks s s.size T) (hs : s.size <= 4000) :
 Calls Tryz.prog 53 #[.string s] w fun e w' => ∃ v, e = .returned (.tuple #[v, .agg #[.int .i64 0, .int .i64 0]]) /\ GrowT w' w.heap.size v T /\ Below w.heap.size w w' := by
 have HRT := Hd (RT.of hT);have hs' : ¬ (4000 : Int) < (s.size : Int) := by omega
 have HSZ := Hd hs;have HFB := Hd (FB.made w 42);have HBX := Hd (rkbelow_box w (.cells #[.int .i64 0, .int .i64 0] 42));clear hT hs
 go_enter Tryz.func53, Tryz.ntmps53
 go_wp2_with fail
 go_loopw [4, 5] (fun v i wr => ∃ (a : Nat) (L : List Tk), a <= s.size /\ i = .int .i64 a /\ RT s a L /\ GrowT wr (w.heap.size + 1) v L /\ FB wr w.heap.size /\ Below w.heap.size w wr) (fun _ i _ => s.size - (intOf i).toNat)
 case atStart => exact ⟨0, [], Nat.zero_le _, rfl, .refl, GrowT.nil _ _, HFB.out, HBX.out⟩
 case round =>
  obtain ⟨a, L, ha, rfl, hrt, hgr, hfb, hbw⟩ := hrel;have HR := Hd hrt;have HG := Hd hgr;have HF := Hd hfb;have HW := Hd hbw;clear hrt hgr hfb hbw
  by_cases hlt : a < s.size
  ·have hlt' : (a : Int) < (s.size : Int) := by omega
   have hb := bt_in hlt;have hw1 : IntKind.i64.wrap ((a : Int) + 1) = (a : Int) + 1 := IntWalk.i64_in _ (by have := HSZ.out; omega);obtain ⟨y, hy, -⟩ := RT.next HR.out HRT.out hlt;have HY := Hd hy
   cases hy with
   | blank _ _ _ hbk =>
     rcases blk_cases hbk with h | h | h
     all_goals
      rw [hb] at h;have HY2 := Hd (Rst.step _ _ HR.out HY.out);clear hb hbk HY;go_wp2_with fail
      go_roundw
      case rel => exact ⟨a + 1, L, hlt, by go_num, HY2.out, HG.out, HF.out, HW.out⟩
      case measure => simp [intOf]; omega
   | hash _ m _ _ h35 hm =>
     have HY2 := Hd (Rst.step _ _ HR.out HY.out);rw [hb] at h35;have HM := Hd hm;have hms := hm.1;have HLT : Hid (a < a + m) := Hd HY.out.lt.1;have hsz := HSZ.out;clear hb HY hm;go_wp2_with fail
     go_loopw [5] (fun i wr2 => ∃ j : Nat, j <= m /\ i = .int .i64 ((a + j : Nat) : Int) /\ wr2 = wr) (fun i _ => s.size - (intOf i).toNat)
     case atStart => exact ⟨0, Nat.zero_le _, rfl, rfl⟩
     case round =>
      obtain ⟨j, hj, rfl, rfl⟩ := hrel;obtain ⟨e, he⟩ : ∃ e, e = a + j := ⟨_, rfl⟩;rw [<- he];have hw2 : IntKind.i64.wrap ((e : Int) + 1) = (e : Int) + 1 := IntWalk.i64_in _ (by omega);have HE := Hd he
      by_cases hjm : j < m
      ·have h1 : e < s.size := by omega
       have h1' : (e : Int) < (s.size : Int) := by omega
       have h10 := HM.out.2.1 j hjm;rw [<- he, bt_in h1] at h10;have h10' : ¬ ((s[e]).toNat : Int) = 10 := of_decide_eq_true h10;clear h10 he;go_wp2_with fail
       go_roundw
       case rel => exact ⟨j + 1, by omega, by have := HE.out; show Value.int _ _ = Value.int _ _; congr 1; omega, by first | rfl | trivial⟩
       case measure => simp [intOf]; have := HE.out; omega
      ·obtain rfl : j = m := by omega
       clear he
       by_cases h1 : e < s.size
       ·have h1' : (e : Int) < (s.size : Int) := by omega
        have h10 := HM.out.2.2 (by have := HE.out; omega);rw [<- HE.out, bt_in h1] at h10;have h10' : ((s[e]).toNat : Int) = 10 := by
         have := of_decide_eq_false h10
         simpa using this
        clear h10;go_wp2_with fail
        go_roundw
        case rel => exact ⟨e, L, by omega, rfl, by rw [HE.out]; exact HY2.out, HG.out, HF.out, HW.out⟩
        case measure => simp [intOf]; have := HE.out; have := HLT.out; omega
       ·have h1' : ¬ (e : Int) < (s.size : Int) := by omega
        go_wp2_with fail
        go_roundw
        case rel => exact ⟨e, L, by have := HE.out; omega, rfl, by rw [HE.out]; exact HY2.out, HG.out, HF.out, HW.out⟩
        case measure => simp [intOf]; have := HE.out; have := HLT.out; omega
   | tok _ _ k n v p _ hbk hh hf =>
     have HY2 := Hd (Rst.step _ _ HR.out HY.out);have HLT := Hd HY.out.lt;obtain ⟨hb1, hb2, hb3⟩ := blk_none hbk;rw [hb] at hb1 hb2 hb3 hh;have hd1 : (((s[a]).toNat : Int) == 32) = false := by simpa using hb1
     have hd2 : (((s[a]).toNat : Int) == 9) = false := by simpa using hb2
     have hd3 : (((s[a]).toNat : Int) == 10) = false := by simpa using hb3
     have hd4 : (((s[a]).toNat : Int) == 35) = false := by simpa using hh
     have hd5 := dEf hb1;have hd6 := dEf hb2;have hd7 := dEf hb3;have hd8 := dEf hh;have hx0 : 0 < (s.extract a s.size).size := by rw [ByteArray.size_extract]; omega
     have hbx : bt (s.extract a s.size) 0 = bt s a := by rw [bt_suffix]; rfl
     have hsz := HSZ.out;have HTB := Hd (TBox.made wr 94 0 ⟨#[]⟩ 0 false (a : Int));have HBW := Hd (rkbelow_box wr (.cells #[.int .i64 0, .string ⟨#[]⟩, .int .i64 0, .bool false, .int .i64 (a : Int)] 94));clear HY hb
     go_upto_block 4 with fail
     go_cut [7, 8, 9] from 14 to 206 (fun e _ _ wx => ∃ E : Nat, e = .int .i64 (E : Int) /\ SwAt s a L wr w u4 E wx)
     case first =>
      by_cases hl : letB (bt s a) = true
      ·refine sw_word s a n k v p L w wr HSZ.out hlt HR _ _ _ _ _ _ _ _ _ _ _ _ _ _ _ _ _ _ _ _ _ _ _ _ _ _ _ _ _ _ _ _ _ _ _ _ _ _ _ _ _ _ _ _ _ _ _ _ _ _ _ _ _ _ _ _ _ _ _ _ _ _ _ _ _ _ _ _ _ _ _ _ _ _ _ _ _ _ _ _ _ _ _ _ _ _ _ _ _ _ _ _ _ _ _ _ _ _ _ _ _ _ _ _ _ _ _ _ _ _ _ _ _ _ _ _ _ _ _ _ _ _ _ _ _ _ _ _ _ _ _ _ _ _ _ _ _ _ _ _ _ _ _ _ _ _ _ _ _ _ _ _ _ _ _ _ _ _ _ _ _ _ _ _ _ _ _ _ _ _ _ _ _ _ _ _ _ _ _ _ _ _ _ _ _ _ _ _ _ _ _ _ _ _ _ _ _ _ _ _ _ _ _ _ _ HG HF HW HY2 HLT hf hl (fun E wx d8 d9 d14 d15 d16 d17 d18 d19 d20 d21 d22 d23 d24 d25 d26 d27 d28 d29 d30 d31 d32 d33 d34 d35 d36 d37 d38 d39 d40 d41 d42 d43 d44 d45 d46 d47 d48 d49 d50 d51 d52 d53 d54 d55 d56 d57 d58 d59 d60 d61 d62 d63 d64 d65 d66 d67 d68 d69 d70 d71 d72 d73 d74 d75 d76 d77 d78 d79 d80 d81 d82 d83 d84 d85 d86 d87 d88 d89 d90 d91 d92 d93 d94 d95 d96 d97 d98 d99 d100 d101 d102 d103 d104 d105 d106 d107 d108 d109 d110 d111 d112 d113 d114 d115 d116 d117 d118 d119 d120 d121 d122 d123 d124 d125 d126 d127 d128 d129 d130 d131 d132 d133 d134 d135 d136 d137 d138 d139 d140 d141 d142 d143 d144 d145 d146 d147 d148 d149 d150 d151 d152 d153 d154 d155 d156 d157 d158 d159 d160 d161 d162 d163 d164 d165 d166 d167 d168 d169 d170 d171 d172 d173 d174 d175 d176 d177 d178 d179 d180 d181 d182 d183 d184 d185 d186 d187 d188 d189 d190 d191 d192 d193 d194 d195 d196 d197 d198 d199 d200 d201 d202 d203 d204 d205 d206 h => ?_);go_wp2_with fail
       go_meet;exact ⟨E, rfl, h⟩
      ·have hl' : letB (bt s a) = false := by simpa using hl
       by_cases hdg : digB (bt s a) = true
       ·refine sw_num s a n k v p L w wr HSZ.out hlt HR _ _ _ _ _ _ _ _ _ _ _ _ _ _ _ _ _ _ _ _ _ _ _ _ _ _ _ _ _ _ _ _ _ _ _ _ _ _ _ _ _ _ _ _ _ _ _ _ _ _ _ _ _ _ _ _ _ _ _ _ _ _ _ _ _ _ _ _ _ _ _ _ _ _ _ _ _ _ _ _ _ _ _ _ _ _ _ _ _ _ _ _ _ _ _ _ _ _ _ _ _ _ _ _ _ _ _ _ _ _ _ _ _ _ _ _ _ _ _ _ _ _ _ _ _ _ _ _ _ _ _ _ _ _ _ _ _ _ _ _ _ _ _ _ _ _ _ _ _ _ _ _ _ _ _ _ _ _ _ _ _ _ _ _ _ _ _ _ _ _ _ _ _ _ _ _ _ _ _ _ _ _ _ _ _ _ _ _ _ _ _ _ _ _ _ _ _ _ _ _ _ _ _ _ _ HG HF HW HY2 HLT hf hl' hdg (fun E wx d8 d9 d14 d15 d16 d17 d18 d19 d20 d21 d22 d23 d24 d25 d26 d27 d28 d29 d30 d31 d32 d33 d34 d35 d36 d37 d38 d39 d40 d41 d42 d43 d44 d45 d46 d47 d48 d49 d50 d51 d52 d53 d54 d55 d56 d57 d58 d59 d60 d61 d62 d63 d64 d65 d66 d67 d68 d69 d70 d71 d72 d73 d74 d75 d76 d77 d78 d79 d80 d81 d82 d83 d84 d85 d86 d87 d88 d89 d90 d91 d92 d93 d94 d95 d96 d97 d98 d99 d100 d101 d102 d103 d104 d105 d106 d107 d108 d109 d110 d111 d112 d113 d114 d115 d116 d117 d118 d119 d120 d121 d122 d123 d124 d125 d126 d127 d128 d129 d130 d131 d132 d133 d134 d135 d136 d137 d138 d139 d140 d141 d142 d143 d144 d145 d146 d147 d148 d149 d150 d151 d152 d153 d154 d155 d156 d157 d158 d159 d160 d161 d162 d163 d164 d165 d166 d167 d168 d169 d170 d171 d172 d173 d174 d175 d176 d177 d178 d179 d180 d181 d182 d183 d184 d185 d186 d187 d188 d189 d190 d191 d192 d193 d194 d195 d196 d197 d198 d199 d200 d201 d202 d203 d204 d205 d206 h => ?_);go_wp2_with fail
        go_meet;exact ⟨E, rfl, h⟩
       ·have hdg' : digB (bt s a) = false := by simpa using hdg
        refine sw_sign s a n k v p L w wr HSZ.out hlt HR _ _ _ _ _ _ _ _ _ _ _ _ _ _ _ _ _ _ _ _ _ _ _ _ _ _ _ _ _ _ _ _ _ _ _ _ _ _ _ _ _ _ _ _ _ _ _ _ _ _ _ _ _ _ _ _ _ _ _ _ _ _ _ _ _ _ _ _ _ _ _ _ _ _ _ _ _ _ _ _ _ _ _ _ _ _ _ _ _ _ _ _ _ _ _ _ _ _ _ _ _ _ _ _ _ _ _ _ _ _ _ _ _ _ _ _ _ _ _ _ _ _ _ _ _ _ _ _ _ _ _ _ _ _ _ _ _ _ _ _ _ _ _ _ _ _ _ _ _ _ _ _ _ _ _ _ _ _ _ _ _ _ _ _ _ _ _ _ _ _ _ _ _ _ _ _ _ _ _ _ _ _ _ _ _ _ _ _ _ _ _ _ _ _ _ _ _ _ _ _ _ _ _ _ _ HG HF HW HY2 HLT hf hl' hdg' (fun E wx d8 d9 d14 d15 d16 d17 d18 d19 d20 d21 d22 d23 d24 d25 d26 d27 d28 d29 d30 d31 d32 d33 d34 d35 d36 d37 d38 d39 d40 d41 d42 d43 d44 d45 d46 d47 d48 d49 d50 d51 d52 d53 d54 d55 d56 d57 d58 d59 d60 d61 d62 d63 d64 d65 d66 d67 d68 d69 d70 d71 d72 d73 d74 d75 d76 d77 d78 d79 d80 d81 d82 d83 d84 d85 d86 d87 d88 d89 d90 d91 d92 d93 d94 d95 d96 d97 d98 d99 d100 d101 d102 d103 d104 d105 d106 d107 d108 d109 d110 d111 d112 d113 d114 d115 d116 d117 d118 d119 d120 d121 d122 d123 d124 d125 d126 d127 d128 d129 d130 d131 d132 d133 d134 d135 d136 d137 d138 d139 d140 d141 d142 d143 d144 d145 d146 d147 d148 d149 d150 d151 d152 d153 d154 d155 d156 d157 d158 d159 d160 d161 d162 d163 d164 d165 d166 d167 d168 d169 d170 d171 d172 d173 d174 d175 d176 d177 d178 d179 d180 d181 d182 d183 d184 d185 d186 d187 d188 d189 d190 d191 d192 d193 d194 d195 d196 d197 d198 d199 d200 d201 d202 d203 d204 d205 d206 h => ?_);go_wp2_with fail
        go_meet;exact ⟨E, rfl, h⟩
     case rest =>
      obtain ⟨E, rfl, k, v, p, hE1, hE2, hst, htb, hg, hf2, hw2, hs9⟩ := hcut;have HST := Hd hst;have HTB2 := Hd htb;have HG2 := Hd hg;have HF2 := Hd hf2;have HW2 := Hd hw2;have HLE := Hd (And.intro hE1 hE2);have hfl2 : w.heap.size < wc.heap.size := FB.lt hf2;have hlen := RT.len HR.out;have hsz4 := HSZ.out;obtain ⟨⟨d0, d1, d2, d3, d4⟩, -⟩ := htb;clear hst hg hf2 hw2 hE1 hE2 HG HF HW HY2 HTB HBW hf hx0 hbx hbk hh hb1 hb2 hb3 hd1 hd2 hd3 hd4 hd5 hd6 hd7 hd8 hw1;generalize s.extract a E = tx at *;go_wp2_with (at_builtin; refine wpList_app_tok _ rfl _ _ rfl (w.heap.size + 1) _ L rfl ?hgw wc.heap.size 1 ⟨k, tx, v, p, (a : Int)⟩ rfl ?hcm ?hbd ?hB ?_; rotate_right; intro v9 w9 hg9 hb9 hgr9; refine Hid.out ?_)
      case hgw => exact HG2.out.alloc _
      case hcm => refine ⟨?_, ?_, ?_, ?_, ?_⟩ <;> (rw [World.cell?_alloc_at (w := wc) _ _ _ _ (by first | rfl | simp)]; first | rfl | simp)
      case hbd => omega
      case hB => first | omega | (simp; omega)
      have HG9 := Hd hg9;have HF9 := Hd ((HF2.out.below (rkbelow_box wc _) hfl2).below hb9 (Nat.lt_succ_self _));have HW9 := Hd ((HW2.out.trans ((rkbelow_box wc _).mono HW2.out.size)).trans (hb9.mono (Nat.le_succ _)));clear hg9 hb9 hgr9;refine Hd ?_;go_wp2_with fail
      go_roundw
      case rel => exact ⟨E, _, by have := HLE.out.2; omega, by first | rfl | go_num, HST.out, HG9.out, HF9.out, HW9.out⟩
      case measure => simp [intOf]; have := HLE.out; omega
  ·obtain rfl : a = s.size := by omega
   have hlt' : ¬ (s.size : Int) < (s.size : Int) := by omega
   have HL := Hd (RT.same HR.out HRT.out);obtain ⟨⟨f0, f1⟩, f2, f3⟩ := HF.out;go_wp2_with fail
   obtain ⟨q0, q1⟩ := rk_put2 (.int .i64 0) (.int .i64 0) f0 f1;refine bodyPost_ret (v := .tuple #[u4, .agg #[.int .i64 0, .int .i64 0]]) (by simp [results, Tryz.results53, go_sem, q0, q1] <;> rfl) rfl ?_;refine ⟨u4, rfl, ?_, (HW.out.setCell (p := ⟨w.heap.size, 0, none⟩) (Nat.le_refl _) _).setCell (p := ⟨w.heap.size, 1, none⟩) (Nat.le_refl _) _⟩;rw [<- HL.out];exact ((HG.out.put (a := ⟨w.heap.size, 0, none⟩) (Nat.lt_succ_self _) _).put (a := ⟨w.heap.size, 1, none⟩) (Nat.lt_succ_self _) _).mono (by omega)
end Go.Proofs.YtmlpedgcpffpnaaGreatDoor
