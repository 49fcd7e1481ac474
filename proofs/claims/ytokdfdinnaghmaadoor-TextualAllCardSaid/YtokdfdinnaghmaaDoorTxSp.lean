/- Walk: split. -/
import Derived.Test.YtokdfdinnaghmaaDoorTxN
import Derived.Test.YtokdfdinnaghmaaDoorTxP
import Derived.Lib.OthersKept
import Derived.Laws.OwnMore
import Derived.Deep.AppendLies
import Derived.Lib.Strings
namespace Go.Proofs.YtokdfdinnaghmaaDoor.Tx
open Go Go.Lib Go.RowKit

theorem strInfo : (Tryd.prog.info? 9).map (fun i => (i.zero, i.size, i.bytes)) = some (some (.string ByteArray.empty), 1, 16) := by kernel_rfl
theorem ext_bytes (s : ByteArray) (a b : Nat) : (s.extract a b).data.toList = (s.data.toList.drop a).take (b - a) := Lib.extract_data s a b
theorem below_grownT {B : Nat} {a w w' : World} {row : Option Nat} (h : Below B a w) (hg : w.grownBy w' row) (hr : ∀ k, row = some k → B ≤ k) (hs : B ≤ w.heap.size) : Below B a w' := by
  refine ⟨hg.os.trans h.os, hg.tape.trans h.tape, hg.output.trans h.output, Nat.le_trans h.size hg.size, fun k hk => ?_⟩
  rw [hg.block k (by omega) (fun e => by have := hr k e.symm; omega), h.block k hk]
theorem own_iterAt {w : World} {base : Nat} {e : TypeId} {size : Nat} {v : Value} {n : Nat} {xs : List Value} (h : w.ownsRow base e size v n xs) {k : Nat} (hk : k < base) (s : ByteArray) (p : Nat) : (w.iterAt k s p).ownsRow base e size v n xs := by
  obtain ⟨h1, h2⟩ := h
  refine ⟨h1, ?_⟩
  rcases h2 with h2 | ⟨g, cap, cur, a, b, c, d⟩
  · exact .inl h2
  · exact .inr ⟨g, cap, cur, a, b, by rw [Lib.iterAt_other _ _ _ _ _ (by omega)]; exact c, d⟩
theorem one_src {w : World} {t : TypeId} {s : ByteArray} : ∀ j v, ([Value.string s])[j]? = some v → (w.alloc (.cells #[.string s] t)).cell? ((⟨w.heap.size, 0, none⟩ : Addr).add j) = some v := by
  intro j u hj
  match j, hj with
  | 0, hj => simp at hj; subst hj; simp [Addr.add]
  | j + 1, hj => simp at hj
/-- The part between two places of a text. -/
def mid (L : List UInt8) (a b : Nat) : List UInt8 := (L.drop a).take (b - a)
theorem mid_self (L : List UInt8) (a : Nat) : mid L a a = [] := by simp [mid]
theorem mid_far {L : List UInt8} {a p q : Nat} (h1 : a ≤ p) (h2 : p ≤ q) : mid L a p ++ mid L p q = mid L a q := by
  unfold mid
  have e : L.drop p = (L.drop a).drop (p - a) := by rw [List.drop_drop]; congr 1; omega
  rw [e, show q - a = (p - a) + (q - p) by omega, List.take_add]
theorem drop_far {L : List UInt8} {p q : Nat} (h : p ≤ q) : L.drop p = mid L p q ++ L.drop q := by
  unfold mid
  have e : L.drop q = (L.drop p).drop (q - p) := by rw [List.drop_drop]; congr 1; omega
  rw [e, List.take_append_drop]
theorem mid_mem {s : ByteArray} {p q : Nat} (h : q ≤ s.size) {x : UInt8} (hx : x ∈ mid s.data.toList p q) : ∃ j, ∃ hj : j < s.size, p ≤ j ∧ j < q ∧ s[j] = x := by
  obtain ⟨i, hi, rfl⟩ := List.mem_iff_getElem.1 hx
  have hl : (mid s.data.toList p q).length ≤ q - p := by unfold mid; rw [List.length_take]; omega
  refine ⟨p + i, by omega, by omega, by omega, ?_⟩
  simp [mid]
  rfl
/-- A step over what is no separator; over one. -/
theorem spl_over {c : UInt8} {L : List UInt8} {a p q : Nat} (h1 : a ≤ p) (h2 : p ≤ q) (h : ∀ x ∈ mid L p q, x ≠ c) : splA c (mid L a p) (L.drop p) = splA c (mid L a q) (L.drop q) := by
  rw [drop_far h2, splA_far _ _ _ h, mid_far h1 h2]
theorem spl_sep {c : UInt8} {s : ByteArray} {a p : Nat} (hp : p < s.size) (hc : s[p] = c) : splA c (mid s.data.toList a p) (s.data.toList.drop p) = mid s.data.toList a p :: splA c (mid s.data.toList (p + 1) (p + 1)) (s.data.toList.drop (p + 1)) := by
  have hl : p < s.data.toList.length := by simpa using hp
  rw [List.drop_eq_getElem_cons hl, show s.data.toList[p] = c from hc, splA_sep, mid_self]
/-- Texts as bytes. -/
def byt (l : List ByteArray) : List Wd := l.map fun s => s.data.toList
theorem byt_len (l : List ByteArray) : (byt l).length = l.length := by simp [byt]
theorem byt_snoc (l : List ByteArray) (s : ByteArray) (a b : Nat) : byt (l ++ [s.extract a b]) = byt l ++ [mid s.data.toList a b] := by
  simp only [byt, List.map_append, List.map_cons, List.map_nil, ext_bytes, mid]
theorem fin_spl {c : UInt8} {s : ByteArray} {a : Nat} {L : List Wd} {R : List Wd} (h : L ++ splA c (mid s.data.toList a s.size) (s.data.toList.drop s.size) = R) : L ++ [mid s.data.toList a s.size] = R := by
  rw [← h, List.drop_eq_nil_of_le (by simp)]; rfl
theorem own_some {w : World} {base : Nat} {e : TypeId} {size : Nat} {v : Value} {n : Nat} {xs : List Value} (h : w.ownsRow base e size v (n + 1) xs) : ∃ g cap : Nat, v = .slice (some ⟨g, 0, none⟩) (n + 1 : Nat) cap := by
  rcases h.2 with h2 | ⟨g, cap, cur, hv, _⟩
  · exact absurd h2.2 (by omega)
  · exact ⟨g, cap, hv⟩
theorem own_lower {w : World} {a b : Nat} {e : TypeId} {size : Nat} {v : Value} {n : Nat} {xs : List Value} (h : w.ownsRow b e size v n xs) (hb : a ≤ b) : w.ownsRow a e size v n xs := by
  refine ⟨h.1, ?_⟩
  rcases h.2 with h2 | ⟨g, cap, cur, h2, h3, h4⟩
  · exact .inl h2
  · exact .inr ⟨g, cap, cur, h2, Nat.le_trans hb h3, h4⟩
/-- What split gives. -/
def SpOut (ps : List Wd) (most : Nat) (w : World) (e : Ending) (w' : World) : Prop :=
  (ps.length ≤ most → ∃ v' l, e = .returned (.tuple #[v', .bool true]) ∧ byt l = ps ∧ (∀ s ∈ l, s.size ≤ maxLen) ∧ w'.ownsRow w.heap.size 9 1 v' l.length (l.map Value.string)) ∧
  (most < ps.length → e = .returned (.tuple #[.slice none 0 0, .bool false])) ∧ Below w.heap.size w w'
set_option maxRecDepth 100000 in
set_option maxHeartbeats 8000000 in
theorem split_any (s : ByteArray) (c : UInt8) (most : Nat) (hc : c.toNat < 128) (hm : 0 < most) (hm2 : most ≤ 100000) (w : World) (hs : s.size ≤ maxLen) :
    Calls Tryd.prog 28 #[.string s, .int .i32 c.toNat, .int .i64 most] w (SpOut (spl c s.data.toList) most w) := by
  obtain ⟨i0, hi0, hz0, hz1, hz2⟩ := info_parts strInfo
  have hsm := hs
  unfold maxLen at hs
  obtain ⟨b0, hb0⟩ : ∃ b0, w.heap.size = b0 := ⟨_, rfl⟩
  obtain ⟨ci, hci⟩ : ∃ ci : Int, (c.toNat : Int) = ci := ⟨_, rfl⟩
  have HCI := Lib.hid hci
  rw [hci]
  have HSM := Lib.hid hsm; have HC := Lib.hid hc; have HB0 := Lib.hid hb0
  clear hsm hc hci
  go_enter Tryd.func28, Tryd.ntmps28
  go_wp2_with fail
  go_loopw [8, 9] (fun v fv wr => ∃ (pos fr : Nat) (P : List ByteArray) (u : Value), u = v ∧ fv = .int .i64 fr ∧ fr ≤ pos ∧ pos ≤ s.size ∧ Hid (wr.heap[b0]? = some (.stringIter s pos)) ∧ Hid (wr.ownsRow (b0 + 1) 9 1 u P.length (P.map Value.string)) ∧ Hid (Below w.heap.size w wr) ∧ Hid (byt P ++ splA c (mid s.data.toList fr pos) (s.data.toList.drop pos) = spl c s.data.toList) ∧ P.length < most ∧ Hid (∀ x ∈ P, x.size ≤ maxLen)) (fun _ _ w' => s.size - w'.iterPos b0)
  case atStart =>
    refine ⟨0, 0, [], _, rfl, rfl, Nat.le_refl _, by omega, Lib.hid ?_, Lib.hid (World.ownsRow_nil _ _ _ _), Lib.hid ?_, Lib.hid ?_, hm, Lib.hid fun x hx => by cases hx⟩
    · rw [← hb0]; exact World.iter_heap w s 0
    · exact (Below.refl _ w).alloc (Nat.le_refl _) _
    · rw [mid_self]; rfl
  case round =>
    obtain ⟨pos, fr, P, v, rfl, rfl, hfp, hps, HI, HO, HB, HS, hPm, HZ⟩ := hrel
    have hpos0 : wr.iterPos b0 = pos := by simp [World.iterPos, HI.out]
    have hbs : w.heap.size ≤ wr.heap.size := HB.out.size
    have hbb : b0 < wr.heap.size := lt_of_block HI.out
    have hP : P.length < 100000 := by omega
    by_cases hp : pos < s.size
    · obtain ⟨r, q, hnx, hr⟩ : ∃ (r : Int) (q : Nat), (∀ ty, (Instr.next (.pointer (some ⟨b0, 0, none⟩)) true ty).run Tryd.prog wr = .ok (.tuple #[.bool true, .int .i64 pos, .int .i32 r]) (wr.iterAt b0 s q)) ∧
          ((s[pos] = c ∧ q = pos + 1 ∧ r = ci) ∨ ((r == ci) = false ∧ pos < q ∧ q ≤ s.size ∧ ∀ x ∈ mid s.data.toList pos q, x ≠ c)) := by
        by_cases ha : s[pos].toNat < 128
        · refine ⟨_, _, fun ty => Lib.run_next_ascii_at wr b0 s pos ty HI.out hp ha, ?_⟩
          by_cases he : s[pos] = c
          · exact .inl ⟨he, rfl, by rw [he]; exact HCI.out⟩
          · have hne : ¬ (s[pos].toNat : Int) = ci := fun h => he (UInt8.toNat.inj (by have := HCI.out; omega))
            refine .inr ⟨by simpa using hne, by omega, by omega, fun x hx => ?_⟩
            obtain ⟨j, hj, h1, h2, rfl⟩ := mid_mem (s := s) (by omega) hx
            obtain rfl : j = pos := by omega
            exact he
        · have hd := (Go.decode_high s pos hp (by omega)).1
          have hsp := dec_span hp (by omega)
          refine ⟨_, _, fun ty => Lib.run_next_any_at wr b0 s pos ty HI.out hp, .inr ⟨?_, by omega, hsp.2.1, fun x hx => ?_⟩⟩
          · have := HCI.out
            have := HC.out
            have hne : ¬ ((Utf8.decode s pos).1 : Int) = ci := by omega
            simpa using hne
          · obtain ⟨j, hj, h1, h2, rfl⟩ := mid_mem (s := s) hsp.2.1 hx
            have h3 := hsp.2.2 j hj h1 h2
            intro e
            rw [e] at h3
            have := HC.out
            omega
      have hit2 := Lib.iterAt_heap wr b0 s pos q HI.out
      have hbw2 := Lib.below_iterAt HB.out (k := b0) (by omega) s q
      have hown2 := own_iterAt HO.out (k := b0) (by omega) s q
      obtain ⟨W1, hW1⟩ : ∃ W1, W1 = wr.iterAt b0 s q := ⟨_, rfl⟩
      rw [← hW1] at hnx hit2 hbw2 hown2
      have I2 := Lib.hid hit2; have B2 := Lib.hid hbw2; have O2 := Lib.hid hown2
      have hb2 : b0 < W1.heap.size := lt_of_block hit2
      clear hit2 hbw2 hown2 hW1
      rcases hr with ⟨he, rfl, rfl⟩ | ⟨he, h1, h2, hx⟩
      · have HS2 := Lib.hid (HS.out.symm.trans (congrArg (byt P ++ ·) (spl_sep (a := fr) hp he)))
        clear he
        go_wp2_with (first
          | (at_builtin; refine wpList_append_own_at _ rfl (.tmp 21) (.tmp 26) 32 rfl (b0 + 1) 9 i0 _ 1 16 Tryd.underlying32 hi0 hz0 hz1 hz2 rfl (by decide) _ _ (P.map Value.string) rfl (O2.out.alloc _) ⟨W1.heap.size, 0, none⟩ 1 1 [.string (s.extract fr pos)] rfl rfl (cell_one_new _ _ _) (fun u hu => by simp at hu; rw [hu]; rfl) (by unfold maxLen; omega) (by omega) (by simp; omega) ?_; intro v' w3 hown' hgrow3 hnil3 hat3
             have hit3 : w3.heap[b0]? = some (.stringIter s (pos + 1)) := by
               rw [hgrow3.block b0 (by simp; omega) (fun h => by have := (O2.out.lt _ h.symm).1; omega), Below.heap_alloc _ _ _ hb2]; exact I2.out
             have hbw3 : Below w.heap.size w w3 := Below.grown (B2.out.alloc (by omega) _) hgrow3 (by simp; omega) (fun j hj => by have := (O2.out.lt _ hj).1; omega)
             have X : Hid (w3.ownsRow (b0 + 1) 9 1 v' (P.length + 1) (P.map Value.string ++ [.string (s.extract fr pos)]) ∧ w3.heap[b0]? = some (.stringIter s (pos + 1)) ∧ Below w.heap.size w w3) := Lib.hid ⟨hown', hit3, hbw3⟩
             clear hown' hgrow3 hnil3 hat3 hit3 hbw3
             obtain ⟨g3, cap3, rfl⟩ := own_some X.out.1))
        · go_ret2
          refine ⟨fun h => ?_, fun _ => rfl, X.out.2.2⟩
          exfalso
          have h1 := splA_pos (c := c) (s.data.toList.drop (pos + 1)) (mid s.data.toList (pos + 1) (pos + 1))
          have h2 := congrArg List.length HS2.out
          rw [List.length_append, List.length_cons, byt_len] at h2
          have h3 := eq_of_beq (by assumption : (((P.length : Nat) : Int) + 1 == ((most : Nat) : Int)) = true)
          omega
        · go_roundw
          case rel =>
            refine ⟨pos + 1, pos + 1, P ++ [s.extract fr pos], _, rfl, rfl, Nat.le_refl _, by omega, Lib.hid X.out.2.1, Lib.hid ?_, Lib.hid X.out.2.2, Lib.hid ?_, ?_, Lib.hid ?_⟩
            · rw [List.map_append, List.length_append]; exact X.out.1
            · rw [HS2.out, byt_snoc, List.append_assoc]; rfl
            · have h3 := ne_of_beq_false (by assumption : (((P.length : Nat) : Int) + 1 == ((most : Nat) : Int)) = false)
              rw [List.length_append, List.length_singleton]; omega
            · intro x hx
              rcases List.mem_append.1 hx with hx | hx
              · exact HZ.out x hx
              · rw [List.mem_singleton.1 hx]; have := HSM.out; simp only [ByteArray.size_extract]; omega
          case measure => rw [show w3.iterPos b0 = pos + 1 by simp [World.iterPos, X.out.2.1], hpos0]; omega
      · have HS2 := Lib.hid ((congrArg (byt P ++ ·) (spl_over (L := s.data.toList) (a := fr) hfp (Nat.le_of_lt h1) hx)).symm.trans HS.out)
        clear hx
        go_wp2
        go_roundw
        case rel => exact ⟨q, fr, P, _, rfl, rfl, by omega, h2, I2, O2, B2, HS2, hPm, HZ⟩
        case measure => rw [show W1.iterPos b0 = q by simp [World.iterPos, I2.out], hpos0]; omega
    · have hnx : ∀ ty, (Instr.next (.pointer (some ⟨b0, 0, none⟩)) true ty).run Tryd.prog wr = _ := fun ty => Lib.run_next_end_at wr b0 s pos ty HI.out hp
      obtain rfl : pos = s.size := by omega
      have HE := Lib.hid (fin_spl (a := fr) HS.out)
      go_wp2_with (first
          | (at_builtin; refine wpList_append_own_at _ rfl (.tmp 34) (.tmp 38) 32 rfl (b0 + 1) 9 i0 _ 1 16 Tryd.underlying32 hi0 hz0 hz1 hz2 rfl (by decide) _ _ (P.map Value.string) rfl (HO.out.alloc _) ⟨wr.heap.size, 0, none⟩ 1 1 [.string (s.extract fr s.size)] rfl rfl (cell_one_new _ _ _) (fun u hu => by simp at hu; rw [hu]; rfl) (by unfold maxLen; omega) (by omega) (by simp; omega) ?_; intro v' w3 hown' hgrow3 hnil3 hat3
             have hbw3 : Below w.heap.size w w3 := Below.grown (HB.out.alloc (by omega) _) hgrow3 (by simp; omega) (fun j hj => by have := (HO.out.lt _ hj).1; omega)
             have X : Hid (w3.ownsRow (b0 + 1) 9 1 v' (P.length + 1) (P.map Value.string ++ [.string (s.extract fr s.size)]) ∧ Below w.heap.size w w3) := Lib.hid ⟨hown', hbw3⟩
             clear hown' hgrow3 hnil3 hat3 hbw3))
      go_ret2
      refine ⟨fun _ => ⟨v', P ++ [s.extract fr s.size], rfl, by rw [byt_snoc]; exact HE.out, ?_, ?_⟩, fun h => ?_, X.out.2⟩
      · intro x hx
        rcases List.mem_append.1 hx with hx | hx
        · exact HZ.out x hx
        · rw [List.mem_singleton.1 hx]; have := HSM.out; simp only [ByteArray.size_extract]; omega
      · rw [List.map_append, List.length_append]; exact own_lower X.out.1 (by omega)
      · exfalso
        have h2 := congrArg List.length HE.out
        rw [List.length_append, List.length_singleton, byt_len] at h2
        omega
end Go.Proofs.YtokdfdinnaghmaaDoor.Tx
