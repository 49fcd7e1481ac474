/- Walks: texts are appended. -/
import Derived.Test.YtlcjpnagjiemiaaRows
import Derived.Test.YtlcjpnagjiemiaaCdY
namespace Go.Proofs.Ytlcjpnagjiemiaa
open Go.RowKit

/-- The bytes of a text behind its length. -/
def txtE (s : ByteArray) : List Int := numE s.size ++ strB s

set_option maxHeartbeats 1000000 in
theorem appTxt_of {v : Value} {l : List Int} {base : Nat} {w : World} (s : ByteArray) (hs : s.size ≤ 1000000000) (hl : l.length ≤ 1000000000)
    (hN : Calls Try.prog 29 #[v, .int .i64 s.size] w (Gives w base (l ++ numE s.size))) (hbase : base ≤ w.heap.size) :
    Calls Try.prog 40 #[v, .string s] w (Gives w base (l ++ txtE s)) := by
  obtain ⟨i0, hi0, hz0, hz1, hz2⟩ := info_parts byteInfo
  have h10 := numE_len (z := s.size) (by omega) (by omega)
  have HN := Lib.hid hN; have HL := Lib.hid hl; have HS := Lib.hid hs
  clear hN hl hs
  go_enter Try.func40, Try.ntmps40
  go_wp2_with (first
    | (go_at_call 29; refine HN.out.mono ?_; rintro e w1 ⟨v1, rfl, ho1, hb1⟩; have HO := Lib.hid ho1; clear ho1)
    | (at_builtin; refine Lib.wpList_append_own_string _ rfl (.tmp 8) (.tmp 9) 22 9 rfl base 5 i0 Try.underlying22 Try.underlying9 hi0 hz0 hz1 hz2 _ _ _ rfl HO.out.1 s rfl (by have := HL.out; have := HS.out; rw [List.length_append]; unfold maxLen; omega) (by have := HL.out; have := HS.out; rw [List.length_append]; omega) (by have := hb1.size; omega) ?_; intro v2 w2 hown2 hg2 _; have hb2 : Below base w w2 := (hb1.grown hg2 (by have := hb1.size; omega) (fun g hg' => (World.ownsRow.lt HO.out.1 g hg').1))))
  go_ret
  refine ⟨_, rfl, ⟨?_, ?_⟩, hb2⟩
  · rw [txtE, ← List.append_assoc, List.length_append, C8_app, strB_len, ← strB_cells]; exact hown2
  · rw [txtE, ← List.append_assoc]; exact ran_app HO.out.2 (strB_ran s)
theorem appTxt_own {v : Value} {l : List Int} {base : Nat} {w : World} (s : ByteArray) (hs : s.size ≤ 1000000000) (hl : l.length ≤ 1000000000) (hv : Own w base v l) (hbase : base ≤ w.heap.size) :
    Calls Try.prog 40 #[v, .string s] w (Gives w base (l ++ txtE s)) := appTxt_of s hs hl (appNum_own _ hv hbase hl (by omega)) hbase
theorem appTxt_byt {A : Option Addr} {n : Nat} {l : List Int} {w : World} (s : ByteArray) (hs : s.size ≤ 1000000000) (hA : Byt w A n n l) (hn : n ≤ 1000000000) :
    Calls Try.prog 40 #[.slice A n n, .string s] w (Gives w w.heap.size (l ++ txtE s)) := appTxt_of s hs (by rw [hA.len]; exact hn) (appNum_byt _ hA hn (by omega)) (Nat.le_refl _)

set_option maxHeartbeats 1000000 in
theorem putTxt_any {A : Option Addr} {n c : Nat} {l : List Int} {w : World} (s : ByteArray) (hs : s.size ≤ 1000000000) (hA : Byt w A n c l) (hn : n ≤ 1000000000) :
    Calls Try.prog 22 #[.slice A n c, .string s] w (Gives w w.heap.size (l ++ txtE s)) := by
  have HF := Lib.hid (full_any A n c w hA.nil0 hA.cap hA.max)
  have HN := Lib.hid (appTxt_byt s hs hA.full hn)
  clear hA hn hs
  go_enter Try.func22, Try.ntmps22
  go_wp2_with (first
    | (go_at_call 30; refine HF.out.mono ?_; rintro e w1 ⟨rfl, rfl⟩)
    | (go_at_call 40; refine HN.out.mono ?_; rintro e w1 ⟨v1, rfl, ho1, hb1⟩))
  go_ret
  exact ⟨_, rfl, ho1, hb1⟩

theorem below_bytes (w : World) (e : TypeId) (s : ByteArray) : Below w.heap.size w (Lib.bytesWorld w e s) :=
  ⟨rfl, rfl, rfl, by rw [Lib.bytesWorld_size]; omega, fun k hk => Lib.bytesWorld_at_old w e s k hk⟩
theorem byt_bytes (w : World) (s : ByteArray) (hs : s.size ≤ maxLen) : Byt (Lib.bytesWorld w 5 s) (some ⟨w.heap.size, 0, none⟩) s.size (grownCap w s.size 0 5) (strB s) := by
  refine ⟨⟨by rw [C8_len, strB_len], C8_one _, .inr ⟨_, rfl, fun j u hu => ?_⟩⟩, grownCap_ge w s.size 0 _, grownCap_le_maxLen w s.size 0 _ hs, strB_ran s⟩
  have hj : j < s.size := by
    have := (List.getElem?_eq_some_iff.1 hu).1
    rwa [C8_len, strB_len] at this
  refine ⟨by rw [Lib.bytesWorld_size]; exact Nat.lt_succ_self _, ?_⟩
  have hc := Lib.bytesWorld_cell w 5 s j hj
  rw [add_none, Nat.zero_add, hc, ← hu, C8_at (by rw [strB_len]; exact hj)]
  simp [strB, List.getD, hj]

theorem conv_str (w : World) (s : ByteArray) (hs : s.size ≤ 1000000000) : ∃ cc w2, (convert 9 22 (.string s)).run Try.prog w = .ok (.slice (some ⟨w.heap.size, 0, none⟩) s.size cc) w2 ∧ Below w.heap.size w w2 ∧ Byt w2 (some ⟨w.heap.size, 0, none⟩) s.size cc (strB s) :=
  ⟨_, _, Lib.run_convert_string_bytes (P := Try.prog) w 9 22 5 s (u := .string) Try.underlying9 Try.underlying22 Try.underlying5, below_bytes w _ s, byt_bytes w s (by unfold maxLen; omega)⟩

set_option maxHeartbeats 1000000 in
theorem refPutTxt_any {A : Option Addr} {n c : Nat} {l : List Int} {w : World} (s : ByteArray) (hs : s.size ≤ 90000000) (hA : Byt w A n c l) (hn : n ≤ 90000000) :
    Calls Try.prog 23 #[.slice A n c, .string s] w (Gives w w.heap.size (l ++ txtE s)) := by
  have h10 := numE_len (z := s.size) (by omega) (by omega)
  have HB := Lib.hid (refPutNum_any (s.size : Int) hA (by omega) (by omega))
  have hlen := hA.len
  have HN := Lib.hid hn; have HS := Lib.hid hs
  clear hA hn hs
  go_enter Try.func23, Try.ntmps23
  go_wp2_with (first
    | (go_at_call 13; refine HB.out.mono ?_; rintro e w1 ⟨v1, rfl, ho1, hb1⟩; obtain ⟨A1, m1, c1, rfl, hm1, hB1⟩ := ho1.bytm; obtain ⟨cc, wc, hcv, hbc, hBc⟩ := conv_str w1 s (by have := HS.out; omega); have HJ := Lib.hid (join_any (hB1.below hbc) hBc (by have := HN.out; have := HS.out; have := hm1.out; rw [List.length_append] at this; omega)); have HC := Lib.hid hbc; clear ho1 hB1 hbc hBc)
    | (go_at_call 31; refine HJ.out.mono ?_; rintro e w2 ⟨v2, rfl, ho2, hb2⟩))
  go_ret
  have hb3 := HC.out.mono hb1.size
  have hs3 := Nat.le_trans hb1.size hb3.size
  refine ⟨_, rfl, ?_, hb1.trans (hb3.trans (hb2.mono hs3))⟩
  rw [txtE, ← List.append_assoc]; exact ho2.mono hs3
end Go.Proofs.Ytlcjpnagjiemiaa
