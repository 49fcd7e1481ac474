/- Walk: payloads are joined to frames. -/
import Derived.Test.YtobkafkknbdacaaDoorRows
import Derived.Test.YtobkafkknbdacaaDoorFrV
import Derived.Test.YtobkafkknbdacaaDoorCdY
namespace Go.Proofs.YtobkafkknbdacaaDoor
open Go.RowKit

/-- A slice of payloads that can be read. -/
structure Pls (w : World) (A : Option Addr) (n c : Nat) (vs : List Value) (ps : List (List Int)) : Prop where
  has : Has w A n c vs
  len : ps.length = n
  pay : ∀ i, i < n → ∃ B m d p, vs[i]? = some (.slice B m d) ∧ ps[i]? = some p ∧ Byt w B m d p
theorem Pls.below {w w' : World} {A : Option Addr} {n c : Nat} {vs : List Value} {ps : List (List Int)} (h : Pls w A n c vs ps) (hb : Below w.heap.size w w') : Pls w' A n c vs ps :=
  ⟨h.has.below hb, h.len, fun i hi => by obtain ⟨B, m, d, p, h1, h2, h3⟩ := h.pay i hi; exact ⟨B, m, d, p, h1, h2, h3.below hb⟩⟩
theorem Pls.at {w : World} {A : Option Addr} {n c : Nat} {vs : List Value} {ps : List (List Int)} (h : Pls w A n c vs ps) {k : Nat} (hk : k < n) :
    ∃ b off B m d p, A = some ⟨b, off, none⟩ ∧ w.cell? ⟨b, off + k, none⟩ = some (.slice B m d) ∧ b < w.heap.size ∧ ps[k]? = some p ∧ Byt w B m d p := by
  obtain ⟨h1, h2, h3⟩ := h.has
  rcases h3 with ⟨_, h4, _⟩ | ⟨a, rfl, h3⟩
  · omega
  · obtain ⟨b, off, rfl, hb, hc⟩ := row_cells (w := w) (x := a) (n := n) (f := fun i => vs.getD i undef) (fun i hi => by
      have := h3 i (vs.getD i undef) (by simp [List.getD, List.getElem?_eq_getElem (show i < vs.length by omega)])
      exact this.2) (by omega)
    obtain ⟨B, m, d, p, g1, g2, g3⟩ := h.pay k hk
    refine ⟨b, off, B, m, d, p, rfl, ?_, hb, g2, g3⟩
    rw [hc k hk]
    simp [List.getD, g1]
theorem Own.below {w w' : World} {base : Nat} {v : Value} {L : List Int} (h : Own w base v L) (hb : Below w.heap.size w w') : Own w' base v L :=
  ⟨h.1.kept (row := none) ⟨hb.os, hb.tape, hb.output, hb.size, fun k hk _ => hb.block k hk⟩ (by cases hv : v.ownBlock with
    | none => exact .inl rfl
    | some x => exact .inr (by simp)), h.2⟩
/-- The frames of payloads. -/
def joinE : List (List Int) → List Int
  | [] => []
  | p :: t => frm p ++ joinE t
def fits (p : List Int) : Bool := decide (p.length ≤ 1048576)
theorem drop_at' {α : Type} {l : List α} {k : Nat} {x : α} (h : l[k]? = some x) : l.drop k = x :: l.drop (k + 1) := by
  obtain ⟨hk, rfl⟩ := List.getElem?_eq_some_iff.1 h
  exact List.drop_eq_getElem_cons hk

theorem cell_four_new (w : World) (a b c d : Value) (t : TypeId) : ∀ j u, [a, b, c, d][j]? = some u → (w.alloc (.cells #[a, b, c, d] t)).cell? ((⟨w.heap.size, 0, none⟩ : Addr).add j) = some u := by
  intro j u hu
  have h := heap_alloc_new w (.cells #[a, b, c, d] t)
  rw [add_none, Nat.zero_add]
  simp only [World.cell?, h]
  simpa using hu
theorem one_four (a b c d : Int) : ∀ u ∈ [Value.int .u8 a, .int .u8 b, .int .u8 c, .int .u8 d], u.oneCell' = true := by
  intro u hu
  simp only [List.mem_cons, List.not_mem_nil, or_false] at hu
  rcases hu with rfl | rfl | rfl | rfl <;> rfl
/-- What Join gives. -/
def JoinP (ps : List (List Int)) (w : World) (e : Ending) (w' : World) : Prop :=
  (if ps.all fits = true then ∃ v, e = .returned (.tuple #[v, .int .i64 0]) ∧ Own w' w.heap.size v (joinE ps) else e = .returned (.tuple #[.slice none 0 0, .int .i64 5])) ∧ Below w.heap.size w w'
theorem JoinP.no {ps : List (List Int)} {w : World} {e : Ending} {w' : World} (h : ps.all fits = false) (he : e = .returned (.tuple #[.slice none 0 0, .int .i64 5])) (hb : Below w.heap.size w w') : JoinP ps w e w' :=
  ⟨by rw [if_neg (by rw [h]; decide)]; exact he, hb⟩
theorem JoinP.yes {ps : List (List Int)} {w : World} {e : Ending} {w' : World} {v : Value} (h : ps.all fits = true) (he : e = .returned (.tuple #[v, .int .i64 0])) (ho : Own w' w.heap.size v (joinE ps)) (hb : Below w.heap.size w w') : JoinP ps w e w' :=
  ⟨by rw [if_pos h]; exact ⟨v, he, ho⟩, hb⟩
set_option maxRecDepth 100000 in
set_option maxHeartbeats 8000000 in
theorem join_all {A : Option Addr} {n c : Nat} {vs : List Value} {ps : List (List Int)} {w : World} (hA : Pls w A n c vs ps) (hn : n ≤ 100000) (hj : (joinE ps).length ≤ 100000000) :
    Calls Tryd.prog 18 #[.slice A n c] w (JoinP ps w) := by
  obtain ⟨i0, hi0, hz0, hz1, hz2⟩ := info_parts byteInfo
  have hni : (n : Int) ≤ 100000 := by omega
  have hpl := hA.len
  have HA := Lib.hid hA; have HJ := Lib.hid hj; have HPL := Lib.hid hpl
  clear hA hj hn hpl
  go_enter Tryd.func18, Tryd.ntmps18
  go_wp2
  go_loopw [4, 10] (fun v i wr => ∃ (k : Nat) (L : List Int), i = .int .i64 (k : Int) ∧ k ≤ n ∧ Own wr w.heap.size v L ∧ Hid (L ++ joinE (ps.drop k) = joinE ps) ∧ Hid (ps.all fits = (ps.drop k).all fits) ∧ Below w.heap.size w wr) (fun _ i _ => n - (intOf i).toNat)
  case atStart => exact ⟨0, [], rfl, by omega, own_none _ _, by show _ = _; simp, by show _ = _; simp, Below.refl _ _⟩
  case round =>
    obtain ⟨k, L, rfl, hk, ho, hd, hf, hb⟩ := hrel
    by_cases hlt : k < n
    · obtain ⟨b, off, B, m, d, p, rfl, hcell, hbl, hp, hB⟩ := HA.out.at hlt
      have hlt' : (k : Int) < (n : Int) := by omega
      have hc2 := (hb.cell (p := ⟨b, off + k, none⟩) hbl).trans hcell
      have hml := hB.len
      have hd' := hd.out
      rw [drop_at' hp] at hd'
      have hf' := hf.out
      rw [drop_at' hp, List.all_cons] at hf'
      by_cases hbig : (1048576 : Int) < (m : Int)
      · have hno : fits p = false := by simp [fits]; omega
        rw [hno, Bool.false_and] at hf'
        have HF := Lib.hid hf'
        clear hf' hd' hcell hB
        go_wp2
        go_ret2
        exact JoinP.no HF.out rfl hb
      · have hyes : fits p = true := by simp [fits]; omega
        rw [hyes, Bool.true_and] at hf'
        have hlen := congrArg List.length hd'
        simp only [joinE, frm, List.length_append, be4_len] at hlen
        have HBW := Lib.hid hB
        have hB' := hB.below hb
        have HS := Lib.hid (sum_any hB' (by omega))
        have HP := Lib.hid (putNum_any (m : Int) (byt_nil wr) (by omega) (by omega))
        rw [List.nil_append] at HP
        have hLl : L.length + (10 + (4 + m)) ≤ 200000000 := by have := HJ.out; omega
        have h10 := numE_len (z := m) (by omega) (by omega)
        have HF := Lib.hid hf'; have HD := Lib.hid hd'; have HB := Lib.hid hB'; have HO := Lib.hid ho; have HL := Lib.hid hLl; have HB0 := Lib.hid hb
        have HH := Lib.hid hlen
        clear hf' hd' hcell hB hB' ho hLl hlen
        go_wp2_with (first
          | (go_at_call 28; refine HS.out.mono ?_; rintro e w1 ⟨rfl, rfl⟩)
          | (go_at_call 29; refine HP.out.mono ?_; rintro e w2 ⟨v2, rfl, ho2, hb2⟩; obtain ⟨A2, m2, c2, rfl, hm2, y2⟩ := ho2.bytm; have HB2 := Lib.hid hb2; have HO2 := Lib.hid (HO.out.below hb2); have Y2 := Lib.hid y2; clear ho2 hb2 y2)
          | (at_builtin; refine wpList_append_has rfl (.tmp 19) (.tmp 22) 37 rfl w.heap.size 5 i0 (.int .u8 0) 1 Tryd.underlying37 hi0 hz0 hz1 hz2 rfl _ _ _ rfl HO2.out.1 _ _ _ _ rfl Y2.out.has (by have := HL.out; have := hm2.out; unfold maxLen; omega) (by have := HL.out; have := hm2.out; omega) (by have := HB0.out.size; have := HB2.out.size; omega) ?_; intro v3 w3 hown3 hg3; have hb3 : Below w.heap.size w w3 := ((HB0.out.trans (HB2.out.mono HB0.out.size)).grown hg3 (by have := HB0.out.size; have := HB2.out.size; omega) (fun g hg' => (World.ownsRow.lt HO2.out.1 g hg').1)); have HB3 := Lib.hid hb3; have HO3 := Lib.hid hown3; clear hb3 hown3)
          | (at_builtin; refine wpList_append_own _ rfl (.tmp 24) (.tmp 36) 37 rfl w.heap.size 5 i0 (.int .u8 0) 1 1 Tryd.underlying37 hi0 hz0 hz1 hz2 rfl (by decide) _ _ _ rfl (World.ownsRow.alloc HO3.out _) ⟨w3.heap.size, 0, none⟩ 4 4 [.int .u8 ((fnv p : Int) / 16777216 % 256), .int .u8 ((fnv p : Int) / 65536 % 256), .int .u8 ((fnv p : Int) / 256 % 256), .int .u8 ((fnv p : Int) % 256)] rfl rfl (cell_four_new _ _ _ _ _ _) (one_four _ _ _ _) (by have := HL.out; have := hm2.out; unfold maxLen; omega) (by have := HL.out; have := hm2.out; omega) (by have := HB3.out.size; simp; omega) ?_; intro v4 w4 hown4 hg4 _; have hb4 : Below w.heap.size w w4 := ((HB3.out.alloc HB3.out.size _).grown hg4 (by have := HB3.out.size; simp; omega) (fun g hg' => (World.ownsRow.lt HO3.out g hg').1)); have HB4 := Lib.hid hb4; have HO4 := Lib.hid hown4; have Y4 := Lib.hid (HBW.out.below hb4); clear hb4 hown4)
          | (at_builtin; refine wpList_append_has rfl (.tmp 38) (.tmp 39) 37 rfl w.heap.size 5 i0 (.int .u8 0) 1 Tryd.underlying37 hi0 hz0 hz1 hz2 rfl _ _ _ rfl HO4.out _ _ _ _ rfl Y4.out.has (by have := HL.out; have := hm2.out; unfold maxLen; omega) (by have := HL.out; have := hm2.out; omega) (by have := HB4.out.size; omega) ?_; intro v5 w5 hown5 hg5; have hb5 : Below w.heap.size w w5 := (HB4.out.grown hg5 (by have := HB4.out.size; omega) (fun g hg' => (World.ownsRow.lt HO4.out g hg').1)); have HB5 := Lib.hid hb5; have HO5 := Lib.hid hown5; clear hb5 hown5))
        go_roundw
        case rel =>
          refine ⟨k + 1, L ++ frm p, by first | rfl | (simp; omega), by omega, ⟨?_, ?_⟩, ?_, HF.out, HB5.out⟩
          · have h5 := HO5.out
            have e1 : L.length + m2 + 4 + m = (L ++ frm p).length := by
              have := hm2.out
              simp only [frm, List.length_append, be4_len, hml]; omega
            have e2 : C8 L ++ C8 (numE m) ++ [Value.int .u8 ((fnv p : Int) / 16777216 % 256), .int .u8 ((fnv p : Int) / 65536 % 256), .int .u8 ((fnv p : Int) / 256 % 256), .int .u8 ((fnv p : Int) % 256)] ++ C8 p = C8 (L ++ frm p) := by
              rw [frm, C8_app, C8_app, C8_app, hml, List.append_assoc, List.append_assoc]
              rfl
            rw [← e1, ← e2]; exact h5
          · exact ran_app HO.out.2 (ran_app (numE_byte _) (ran_app (be4_ran _) HBW.out.ran))
          · have := HD.out
            show _ = _
            rw [← this]; simp [joinE]
        case measure => simp [intOf]; omega
    · obtain rfl : k = n := by omega
      have hfin : L = joinE ps := by
        have := hd.out
        rw [List.drop_eq_nil_of_le (by have := HPL.out; omega)] at this
        simpa [joinE] using this
      have hall : ps.all fits = true := by
        have := hf.out
        rw [List.drop_eq_nil_of_le (by have := HPL.out; omega)] at this
        simpa using this
      have HFI := Lib.hid hfin; have HAL := Lib.hid hall; clear hfin hall
      go_wp2
      go_ret2
      exact JoinP.yes HAL.out rfl (HFI.out ▸ ho) hb
end Go.Proofs.YtobkafkknbdacaaDoor
