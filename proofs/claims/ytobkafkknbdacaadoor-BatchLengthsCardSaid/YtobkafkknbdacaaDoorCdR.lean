/- Walk: the reader's number. -/
import Derived.Test.YtobkafkknbdacaaDoorRows
import Derived.Test.YtobkafkknbdacaaDoorCdD
import Derived.Laws.CopyOwn
namespace Go.Proofs.YtobkafkknbdacaaDoor
open Go.RowKit

/-- The reader's block: what remains, and the error. -/
def RdB (W : World) (g : Nat) (v : Value) (er : Int) : Prop := W.heap[g]? = some (.cells #[v, .int .i64 er] 96 (0, 0))
theorem RdB.cell0 {W : World} {g : Nat} {v : Value} {er : Int} (h : RdB W g v er) : W.cell? ⟨g, 0, none⟩ = some v := by
  unfold RdB at h; simp [World.cell?, h]
theorem RdB.cell1 {W : World} {g : Nat} {v : Value} {er : Int} (h : RdB W g v er) : W.cell? ⟨g, 1, none⟩ = some (.int .i64 er) := by
  unfold RdB at h; simp [World.cell?, h]
theorem RdB.fr0 {W : World} {g : Nat} {v : Value} {er : Int} (h : RdB W g v er) : W.frozen? ⟨g, 0, none⟩ = false := by
  unfold RdB at h; simp [World.frozen?, h]
theorem RdB.fr1 {W : World} {g : Nat} {v : Value} {er : Int} (h : RdB W g v er) : W.frozen? ⟨g, 1, none⟩ = false := by
  unfold RdB at h; simp [World.frozen?, h]
theorem RdB.set0 {W : World} {g : Nat} {v : Value} {er : Int} (h : RdB W g v er) (u : Value) : RdB (W.setCell ⟨g, 0, none⟩ u) g u er := by
  unfold RdB at h ⊢
  simp [World.setCell, Array.getElem?_modify, h]
theorem RdB.set1 {W : World} {g : Nat} {v : Value} {er : Int} (h : RdB W g v er) (x : Int) : RdB (W.setCell ⟨g, 1, none⟩ (.int .i64 x)) g v x := by
  unfold RdB at h ⊢
  simp [World.setCell, Array.getElem?_modify, h]
theorem grown_set (W : World) (g i : Nat) (u : Value) : W.grownBy (W.setCell ⟨g, i, none⟩ u) (some g) :=
  ⟨rfl, rfl, rfl, by simp [World.setCell], fun k _ hk => Below.heap_setCell _ _ _ _ (by intro e; exact hk (by rw [e]))⟩
/-- The reader at work: its block g, the bytes that remain (of the memory w0 below g), and the error. -/
def Rd (w0 W : World) (g : Nat) (l : List Int) (er : Int) : Prop :=
  g = w0.heap.size ∧ ∃ A n c ys, RdB W g (.slice A n c) er ∧ Byt w0 A n c ys ∧ (er = 0 → ys = l) ∧ Below g w0 W
/-- What a step of the reader gives. -/
def Steps (w0 W : World) (g : Nat) (v : Value) (s : St) (e : Ending) (W' : World) : Prop := e = .returned v ∧ Rd w0 W' g s.1 s.2 ∧ W.grownBy W' (some g)

theorem below_set {w0 W : World} {g i : Nat} (h : Below g w0 W) (u : Value) : Below g w0 (W.setCell ⟨g, i, none⟩ u) := h.setCell (Nat.le_refl _) u
theorem dec_nil {i acc : Nat} : dec i acc [] = (2, 0, []) := rfl

set_option maxHeartbeats 2000000 in
theorem number_stop {w0 W : World} {g : Nat} {l : List Int} {er : Int} (h : Rd w0 W g l er) (her : er ≠ 0) :
    Calls Tryd.prog 56 #[.pointer (some ⟨g, 0, none⟩)] W (Steps w0 W g (.int .i64 0) ([], er)) := by
  obtain ⟨hg, A, n, c, ys, hB, hA, _, hb⟩ := h
  have hD := decode_any (hA.below (hg ▸ hb))
  have HD := Lib.hid hD
  have c0 := hB.cell0; have c1 := hB.cell1; have f1 := hB.fr1
  have HB := Lib.hid hB; have HA := Lib.hid hA; have HL := Lib.hid hb; have HG := Lib.hid hg
  have he1 : (er == 0) = false := by simp [her]
  have he2 : (er != 0) = true := by simp [her]
  clear hB hA hb hg hD
  go_enter Tryd.func56, Tryd.ntmps56
  go_wp2_with (go_at_call 62; refine HD.out.mono ?_; rintro e w1 ⟨⟨u, sz, e1, rfl, h1, h2⟩, rfl⟩; have H1 := Lib.hid h1; have H2 := Lib.hid h2; clear h1 h2)
  go_ret
  exact ⟨rfl, ⟨HG.out, A, n, c, ys, HB.out, HA.out, fun h => absurd h her, HL.out⟩, World.grownBy.refl _ _⟩
set_option maxHeartbeats 2000000 in
theorem number_err {w0 W : World} {g : Nat} {l : List Int} (h : Rd w0 W g l 0) (e1 : Int) (he : (dec 0 0 l).1 = e1) (hne : e1 ≠ 0) :
    Calls Tryd.prog 56 #[.pointer (some ⟨g, 0, none⟩)] W (Steps w0 W g (.int .i64 0) ([], e1)) := by
  obtain ⟨hg, A, n, c, ys, hB, hA, hys, hb⟩ := h
  obtain rfl := hys rfl
  have hD := decode_any (hA.below (hg ▸ hb))
  have HD := Lib.hid hD
  have c0 := hB.cell0; have c1 := hB.cell1; have f1 := hB.fr1
  have HB := Lib.hid hB; have HA := Lib.hid hA; have HL := Lib.hid hb; have HG := Lib.hid hg; have HE := Lib.hid he
  have he2 : (e1 != 0) = true := by simp [hne]
  clear hB hA hb hg hD he hys
  go_enter Tryd.func56, Tryd.ntmps56
  go_wp2_with (go_at_call 62; refine HD.out.mono ?_; rintro e w1 ⟨⟨u, sz, e2, rfl, h1, h2⟩, rfl⟩; obtain rfl : e2 = e1 := h1.symm.trans HE.out; have H2 := Lib.hid h2; clear h1 h2)
  go_ret
  exact ⟨rfl, ⟨HG.out, A, n, c, ys, HB.out.set1 _, HA.out, fun h => absurd h hne, below_set HL.out _⟩, grown_set _ _ _ _⟩

theorem one_odd (u : Nat) (h : u < 18446744073709551616) (hpar : u % 2 = 1) : (bits BinOp.and IntKind.u64 (u : Int) 1 == 1) = true := by rw [and_one u h, hpar]; rfl
theorem one_even (u : Nat) (h : u < 18446744073709551616) (hpar : u % 2 = 0) : (bits BinOp.and IntKind.u64 (u : Int) 1 == 1) = false := by rw [and_one u h, hpar]; rfl
theorem unz_even' (u : Nat) (h : u % 2 = 0) (hu : u < 18446744073709551616) : wrap64 ((u : Int) / 2) = unz u := by
  unfold unz wrap64; rw [if_neg (by omega)]; omega
theorem unz_odd' (u : Nat) (h : u % 2 = 1) (hu : u < 18446744073709551616) : wrap64 (bits BinOp.xor .u64 IntKind.u64.max ((u : Int) / 2)) = unz u := by
  rw [bits_not _ (by omega) (by omega)]
  unfold unz wrap64; rw [if_pos h]
  omega
theorem grown_two (W : World) (g : Nat) (u v : Value) : W.grownBy ((W.setCell ⟨g, 1, none⟩ u).setCell ⟨g, 0, none⟩ v) (some g) :=
  ⟨rfl, rfl, rfl, by simp [World.setCell], fun k _ hk => (Below.heap_setCell _ _ _ _ (by intro e; exact hk (by rw [e]))).trans (Below.heap_setCell _ _ _ _ (by intro e; exact hk (by rw [e])))⟩
theorem byt_drop {w : World} {b off n c : Nat} {l : List Int} (h : Byt w (some ⟨b, off, none⟩) n c l) (k : Nat) (hk : k ≤ n) : Byt w (some ⟨b, off + k, none⟩) (n - k) (c - k) (l.drop k) := by
  obtain ⟨⟨h1, h2, h3⟩, h4, h5, h6⟩ := h
  refine ⟨⟨?_, C8_one _, .inr ⟨_, rfl, fun j u hj => ?_⟩⟩, by omega, by omega, fun x hx => h6 x (List.mem_of_mem_drop hx)⟩
  · rw [C8_len] at h1 ⊢; rw [List.length_drop]; omega
  · rcases h3 with ⟨h, _⟩ | ⟨x, hx, h3⟩
    · cases h
    · obtain rfl := Option.some.inj hx
      have := h3 (k + j) u (by rw [← hj]; simp [C8])
      rw [add_none] at this ⊢
      rw [← Nat.add_assoc] at this
      exact this
theorem byt_take {w : World} {A : Option Addr} {n c : Nat} {l : List Int} (h : Byt w A n c l) (k : Nat) (hk : k ≤ n) : Byt w A k c (l.take k) := by
  have ht := h.has.take k hk c (fun h0 => (h.nil0 h0).2)
  exact ⟨by simpa [C8] using ht, Nat.le_trans hk h.cap, h.max, fun x hx => h.ran x (List.mem_of_mem_take hx)⟩
theorem byt_none {w : World} {A : Option Addr} {c : Nat} (hc : c ≤ maxLen) (hA : A = none → c = 0) : Byt w A 0 c [] := by
  refine ⟨⟨rfl, C8_one _, ?_⟩, Nat.zero_le _, hc, by intro x hx; cases hx⟩
  cases A with
  | none => exact .inl ⟨rfl, rfl, hA rfl⟩
  | some x => exact .inr ⟨x, rfl, fun j u hj => by simp [C8] at hj⟩

set_option maxHeartbeats 2000000 in
theorem number_ok {w0 W : World} {g : Nat} {l : List Int} (h : Rd w0 W g l 0) (he : (dec 0 0 l).1 = 0) :
    Calls Tryd.prog 56 #[.pointer (some ⟨g, 0, none⟩)] W (Steps w0 W g (.int .i64 (unz (dec 0 0 l).2.1)) ((dec 0 0 l).2.2, 0)) := by
  obtain ⟨hg, A, n, c, ys, hB, hA, hys, hb⟩ := h
  obtain rfl := hys rfl
  have hn : 0 < n := by
    rcases Nat.eq_zero_or_pos n with h | h
    · have : ys = [] := List.length_eq_zero_iff.1 (by rw [hA.len, h])
      rw [this, dec_nil] at he; cases he
    · exact h
  obtain ⟨b, off, x, rfl, _, _, hbl⟩ := hA.at (k := 0) hn
  have hlen := hA.len
  have hcap := hA.cap
  have hmax : c ≤ 9223372036854775807 := by have := hA.max; unfold maxLen at this; omega
  have HM := Lib.hid hmax; clear hmax
  have hD := decode_any (hA.below (hg ▸ hb))
  have HD := Lib.hid hD
  have c0 := hB.cell0; have c1 := hB.cell1; have f1 := hB.fr1; have f0 := hB.fr0
  have HB := Lib.hid hB; have HA := Lib.hid hA; have HL := Lib.hid hb; have HG := Lib.hid hg; have HE := Lib.hid he
  clear hB hA hb hg hD he hys
  obtain ⟨u0, hu0⟩ : ∃ u0, (dec 0 0 ys).2.1 = u0 := ⟨_, rfl⟩
  rw [hu0]
  have HU := Lib.hid hu0; clear hu0
  by_cases hpar : u0 % 2 = 1
  · go_enter Tryd.func56, Tryd.ntmps56
    go_wp2_with (go_at_call 62; refine HD.out.mono ?_; rintro e w1 ⟨⟨u, sz, e2, rfl, h1, h2⟩, rfl⟩; obtain rfl : e2 = 0 := h1.symm.trans HE.out; obtain rfl : u = u0 := (congrArg (fun p => p.2.1) (h2 rfl).1).symm.trans HU.out; have H2 := Lib.hid (h2 rfl); clear h1 h2; have hsz : sz ≤ n := Nat.le_trans H2.out.2.1 (Nat.le_of_eq hlen); have hand : (bits BinOp.and IntKind.u64 (u : Int) 1 == 1) = true := one_odd u H2.out.2.2 hpar)
    all_goals
      go_ret
      have h1 := H2.out.1
      have hd2 : (dec 0 0 ys).2.2 = ys.drop sz := by rw [h1]
      refine ⟨by rw [unz_odd' u hpar H2.out.2.2]; rfl, ⟨HG.out, _, _, _, ys.drop sz, (HB.out.set1 0).set0 _, ?_, fun _ => hd2.symm, below_set (below_set HL.out _) _⟩, grown_two _ _ _ _⟩
    · have hz : n - sz = 0 := by omega
      rw [hz, List.drop_eq_nil_of_le (by omega)]
      exact byt_none (by unfold maxLen; omega) (by intro h; cases h)
    · exact byt_drop HA.out sz (by omega)
  · have hpar : u0 % 2 = 0 := by omega
    go_enter Tryd.func56, Tryd.ntmps56
    go_wp2_with (go_at_call 62; refine HD.out.mono ?_; rintro e w1 ⟨⟨u, sz, e2, rfl, h1, h2⟩, rfl⟩; obtain rfl : e2 = 0 := h1.symm.trans HE.out; obtain rfl : u = u0 := (congrArg (fun p => p.2.1) (h2 rfl).1).symm.trans HU.out; have H2 := Lib.hid (h2 rfl); clear h1 h2; have hsz : sz ≤ n := Nat.le_trans H2.out.2.1 (Nat.le_of_eq hlen); have hand : (bits BinOp.and IntKind.u64 (u : Int) 1 == 1) = false := one_even u H2.out.2.2 hpar)
    all_goals
      go_ret
      have h1 := H2.out.1
      have hd2 : (dec 0 0 ys).2.2 = ys.drop sz := by rw [h1]
      refine ⟨by rw [unz_even' u hpar H2.out.2.2]; rfl, ⟨HG.out, _, _, _, ys.drop sz, (HB.out.set1 0).set0 _, ?_, fun _ => hd2.symm, below_set (below_set HL.out _) _⟩, grown_two _ _ _ _⟩
    · have hz : n - sz = 0 := by omega
      rw [hz, List.drop_eq_nil_of_le (by omega)]
      exact byt_none (by unfold maxLen; omega) (by intro h; cases h)
    · exact byt_drop HA.out sz (by omega)
end Go.Proofs.YtobkafkknbdacaaDoor
