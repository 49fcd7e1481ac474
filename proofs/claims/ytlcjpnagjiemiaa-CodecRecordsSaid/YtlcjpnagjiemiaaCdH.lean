/- Helpers of the laws CodecBack, CodecCut, CodecRecords: what was appended to nothing; what is read back. -/
import Derived.Test.YtlcjpnagjiemiaaRows
import Derived.Test.YtlcjpnagjiemiaaCdL1
import Derived.Test.YtlcjpnagjiemiaaCdS3
import Derived.Test.YtlcjpnagjiemiaaCdBkM
import Derived.Test.YtlcjpnagjiemiaaCdRL
import Derived.Test.YtlcjpnagjiemiaaCdArg
namespace Go.Proofs.Ytlcjpnagjiemiaa
open Go.RowKit

theorem Own.kept {w w' : World} {base : Nat} {v : Value} {L : List Int} (h : Own w base v L) (hb : Below w.heap.size w w') : Own w' base v L :=
  ⟨h.1.kept (row := none) ⟨hb.os, hb.tape, hb.output, hb.size, fun k hk _ => hb.block k hk⟩ (by cases hv : v.ownBlock with
    | none => exact .inl rfl
    | some x => exact .inr (by simp)), h.2⟩
theorem glue {w : World} {base : Nat} {v : Value} {a r : List Int} {m : Nat} (h : w.ownsRow base 5 1 v (a.length + m) (C8 a ++ C8 r)) (hm : r.length = m) (ha : ∀ x ∈ a, 0 ≤ x ∧ x ≤ 255) (hr : ∀ x ∈ r, 0 ≤ x ∧ x ≤ 255) : Own w base v (a ++ r) := by
  subst hm
  exact ⟨by rw [List.length_append, C8_app]; exact h, ran_app ha hr⟩
theorem putNum_nil {w : World} (z : Int) (hz : -9223372036854775808 ≤ z ∧ z ≤ 9223372036854775807) : Calls Try.prog 12 #[.slice none 0 0, .int .i64 z] w (Gives w w.heap.size (numE z)) := by
  have := putNum_any z (byt_nil w) (by decide) hz
  rwa [List.nil_append] at this
theorem putTxt_nil {w : World} (s : ByteArray) (hs : s.size ≤ 300) : Calls Try.prog 22 #[.slice none 0 0, .string s] w (Gives w w.heap.size (txtE s)) := by
  have := putTxt_any s (Nat.le_trans hs (by decide)) (byt_nil w) (by decide)
  rwa [List.nil_append] at this
theorem putNums_nil {w : World} {B : Option Addr} {m d : Nat} {zs : List Int} (h : Ints w B m d zs) (hm : m ≤ 1048576) : Calls Try.prog 28 #[.slice none 0 0, .slice B m d] w (Gives w w.heap.size (numE zs.length ++ listE zs)) := by
  have := putNums_any (byt_nil w) h (by decide) (Nat.le_trans hm (by decide))
  rwa [List.nil_append] at this
theorem putRec_nil {w : World} {r : Rc} (hr : r.In 1000) : Calls Try.prog 26 #[.slice none 0 0, .agg r.cells] w (Gives w w.heap.size r.enc) := by
  have := putRec_any (byt_nil w) (by decide) hr
  rwa [List.nil_append] at this
theorem ints_of_row {w : World} {a : Option Addr} {len cap : Nat} {zs : List Int} (h : IsRow .i64 w a len cap zs) : Ints w a len cap (zs.take len) := by
  have hh := has_row h
  rcases h with ⟨rfl, rfl, rfl, rfl⟩ | ⟨x, rfl, hl, hm, hz, hc, hw⟩
  · exact ⟨hh, by simp⟩
  · exact ⟨hh, fun z hz' => i64_bounds (hw z (List.mem_of_mem_take hz'))⟩
theorem Ints.cells {w : World} {B : Option Addr} {m d : Nat} {zs : List Int} (h : Ints w B m d zs) : ∀ k, k < m → ∃ b off, B = some ⟨b, off, none⟩ ∧ w.cell? ⟨b, off + k, none⟩ = some (.int .i64 (zs.getD k 0)) := fun k hk => by
  obtain ⟨b, off, x, e, hx, hc, _⟩ := h.at hk
  exact ⟨b, off, e, by rw [hc]; simp [List.getD, hx]⟩

/-- Number behind what PutNumber gave. -/
theorem codNum_back {A : Option Addr} {n c : Nat} {z : Int} {t : List Int} {w : World} (hA : Byt w A n c (numE z ++ t)) (hn : n ≤ 1000000000) (hz : -9223372036854775808 ≤ z ∧ z ≤ 9223372036854775807) :
    Calls Try.prog 15 #[.slice A n c] w fun e w' => ∃ v, e = .returned (.tuple #[.int .i64 z, v, .int .i64 0]) ∧ Own w' w.heap.size v t ∧ Below w.heap.size w w' := by
  have h := codNumber_any hA hn
  rw [numR_back z t hz.1 hz.2] at h
  exact h
theorem codTxt_back {A : Option Addr} {n c : Nat} {s : ByteArray} {t : List Int} {w : World} (hA : Byt w A n c (txtE s ++ t)) (hn : n ≤ 1000000000) (hs : s.size ≤ 1048576) :
    Calls Try.prog 20 #[.slice A n c] w fun e w' => ∃ v, e = .returned (.tuple #[.string s, v, .int .i64 0]) ∧ Own w' w.heap.size v t ∧ Below w.heap.size w w' := by
  have h := codText_any hA hn
  rw [txtR_back s t hs] at h
  exact h
theorem codNums_back {A : Option Addr} {n c : Nat} {zs t : List Int} {w : World} (hA : Byt w A n c ((numE zs.length ++ listE zs) ++ t)) (hn : n ≤ 1000000000) (hl : zs.length ≤ 1048576) (hz : ∀ z ∈ zs, -9223372036854775808 ≤ z ∧ z ≤ 9223372036854775807) :
    Calls Try.prog 17 #[.slice A n c] w fun e w' => ∃ u v, e = .returned (.tuple #[u, v, .int .i64 0]) ∧ OwnI w' w.heap.size u zs ∧ Own w' w.heap.size v t ∧ Below w.heap.size w w' := by
  have h := codNumbers_any hA hn
  rw [numsR_back zs t hl hz] at h
  exact h
theorem codRec_back {A : Option Addr} {n c : Nat} {r : Rc} {t : List Int} {w : World} (hA : Byt w A n c (r.enc ++ t)) (hn : n ≤ 1000000000) (hr : r.In 1000) :
    Calls Try.prog 24 #[.slice A n c] w fun e w' => ∃ v, e = .returned (.tuple #[.agg r.cells, v, .int .i64 0]) ∧ Own w' w.heap.size v t ∧ Below w.heap.size w w' := by
  have h := codRecord_any hA hn
  unfold RecP at h
  rw [recR_back r t hr] at h
  exact h.mono fun e w' ⟨v, r', he, h1, _, ho, hb⟩ => ⟨v, by rw [he, h1 rfl], ho, hb⟩
theorem enc_byte {r : Rc} : ∀ x ∈ r.enc, 0 ≤ x ∧ x ≤ 255 := by
  unfold Rc.enc
  exact ran_app (numE_byte _) (ran_app (numE_byte _) (ran_app (numE_byte _) (ran_app (ran_app (numE_byte _) (strB_ran _)) (ran_app (ran_app (numE_byte _) (strB_ran _)) (ran_app (numE_byte _) (ran_app (numE_byte _) (ran_app (numE_byte _) (ran_app (numE_byte _) (ran_app (numE_byte _) (ran_app (numE_byte _) (numE_byte _)))))))))))
theorem enc_len {r : Rc} {N : Nat} (h : r.In N) (hN : N ≤ 1000) : r.enc.length ≤ 120 + 2 * N := by
  obtain ⟨h0, h1, h2, ha, hb, h5, h6, h7, h8, h10⟩ := h
  have := numE_len h0.1 h0.2; have := numE_len h1.1 h1.2; have := numE_len h2.1 h2.2; have := numE_len h5.1 h5.2; have := numE_len h6.1 h6.2
  have := numE_len h7.1 h7.2; have := numE_len h8.1 h8.2; have := numE_len h10.1 h10.2; have := numE_len (bnum_ran r.b9).1 (bnum_ran r.b9).2; have := numE_len (bnum_ran r.b11).1 (bnum_ran r.b11).2
  have := txtE_len (s := r.sa) (by omega); have := txtE_len (s := r.sb) (by omega)
  simp only [Rc.enc, List.length_append]
  omega
theorem listE_byte : ∀ (zs : List Int), ∀ x ∈ listE zs, 0 ≤ x ∧ x ≤ 255
  | [] => by simp [listE]
  | z :: zs => ran_app (numE_byte z) (listE_byte zs)
/-- The world behind a record that is boxed. -/
theorem rec_world (w : World) (r : Rc) : ∃ L, w.alloc (.cells r.cells 40) = L ∧ Below w.heap.size w L ∧ RcB L w.heap.size r ∧ L.heap.size = w.heap.size + 1 :=
  ⟨_, rfl, below_lit w _, heap_alloc_new w _, by simp⟩
theorem OwnI.rows {w : World} {base : Nat} {v : Value} {zs : List Int} {m : Nat} (h : OwnI w base v zs) (hm : zs.length = m) : ∃ A c, v = .slice A m c ∧ ∀ k, k < m → ∃ b off, A = some ⟨b, off, none⟩ ∧ w.cell? ⟨b, off + k, none⟩ = some (.int .i64 (zs.getD k 0)) := by
  subst hm
  obtain ⟨A, c, rfl, hg⟩ := h.at
  exact ⟨A, c, rfl, fun k hk => by obtain ⟨g, e, hc⟩ := hg k hk; exact ⟨g, 0, e, by rw [Nat.zero_add]; exact hc⟩⟩
set_option maxHeartbeats 2000000 in
theorem sameInts_yes' {A B : Option Addr} {n c d : Nat} {zs : List Int} {w : World} (hn : n ≤ 100000000) (hA : ∀ k, k < n → ∃ b off, A = some ⟨b, off, none⟩ ∧ w.cell? ⟨b, off + k, none⟩ = some (.int .i64 (zs.getD k 0))) (hB : ∀ k, k < n → ∃ b off, B = some ⟨b, off, none⟩ ∧ w.cell? ⟨b, off + k, none⟩ = some (.int .i64 (zs.getD k 0))) :
    Calls Try.prog 19 #[.slice A n c, .slice B n d] w fun e w' => e = .returned (.bool true) ∧ Below w.heap.size w w' := by
  have HA := Lib.hid hA; have HB := Lib.hid hB
  have hni : (n : Int) ≤ 100000000 := by omega
  clear hA hB hn
  go_enter Try.func19, Try.ntmps19
  go_wp2_with fail
  go_loopw [5] (fun iv wr => ∃ k q : Nat, iv = .int .i64 k ∧ k ≤ n ∧ wr = w.drewN q) (fun iv _ => n - (intOf iv).toNat)
  case atStart => exact ⟨0, 0, rfl, by omega, rfl⟩
  case round =>
    obtain ⟨k, q, rfl, hk, rfl⟩ := hrel
    by_cases hlt : k < n
    · obtain ⟨g, o, rfl, e0⟩ := HA.out k hlt
      obtain ⟨g', o', rfl, e1⟩ := HB.out k hlt
      have hlt' : (k : Int) < (n : Int) := by omega
      obtain ⟨x, hx⟩ : ∃ x, zs.getD k 0 = x := ⟨_, rfl⟩
      rw [hx] at e0 e1
      clear hx
      go_wp2_with fail
      go_quiet (fail)
      go_wp2_with fail
      go_roundw
      case rel => exact ⟨k + 1, _, by go_num, by omega, rfl⟩
      case measure => simp [intOf]; omega
    · obtain rfl : k = n := by omega
      go_wp2_with fail
      go_ret
      exact ⟨rfl, below_drawn (Below.refl _ _) _⟩
end Go.Proofs.Ytlcjpnagjiemiaa
