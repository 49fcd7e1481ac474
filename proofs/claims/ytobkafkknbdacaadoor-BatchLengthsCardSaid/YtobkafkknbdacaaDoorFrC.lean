/- Walk: the first frame is cut off. -/
import Derived.Test.YtobkafkknbdacaaDoorRows
import Derived.Test.YtobkafkknbdacaaDoorFrJ
import Derived.Test.YtobkafkknbdacaaDoorCdN
import Derived.Deep.Cut
namespace Go.Proofs.YtobkafkknbdacaaDoor
open Go.RowKit

/-- How many bytes the number takes. -/
def took (l : List Int) : Nat := l.length - (numR (l, 0)).2.1.length
theorem numR_take (l : List Int) (k : Nat) (hk : k = l.length ∨ k = 10) : (numR (l.take k, 0)).1 = (numR (l, 0)).1 ∧ (numR (l.take k, 0)).2.2 = (numR (l, 0)).2.2 ∧
    ((numR (l, 0)).2.2 = 0 → (l.take k).length - (numR (l.take k, 0)).2.1.length = took l ∧ (numR (l, 0)).2.1 = l.drop (took l) ∧ 0 < took l ∧ took l ≤ l.length) := by
  rcases hk with rfl | rfl
  · rw [List.take_length]
    refine ⟨rfl, rfl, fun h => ?_⟩
    have ht := dec_take l 0 0 (l.length + 10) (by omega) (by omega)
    unfold numR at h
    simp only [if_true] at h
    split at h
    · rename_i h0
      obtain ⟨_, h2, h3⟩ := ht.2.2 h0
      simp only [took, numR, if_true, h0]
      refine ⟨trivial, h2, by omega, by omega⟩
    · rename_i h0; exact absurd h h0
  · have ht := dec_take l 0 0 10 (by omega) (by omega)
    simp only [numR, if_true, ht.1, ht.2.1]
    split
    · rename_i h0
      obtain ⟨h1, h2, h3⟩ := ht.2.2 h0
      refine ⟨rfl, rfl, fun _ => ?_⟩
      simp only [took, numR, if_true, h0]
      exact ⟨h1, h2, by omega, by omega⟩
    · rename_i h0
      exact ⟨rfl, rfl, fun h => absurd h h0⟩
/-- Number of the first bytes. -/
theorem number_head {A : Option Addr} {n c k : Nat} {l : List Int} {w : World} (hA : Byt w A n c l) (hn : n ≤ 1000000000) (hk : (k = n ∧ n ≤ 10) ∨ (k = 10 ∧ 10 < n)) :
    Calls Tryd.prog 47 #[.slice A k c] w fun e w' => ∃ B m d, e = .returned (.tuple #[.int .i64 (numR (l, 0)).1, .slice B m d, .int .i64 (numR (l, 0)).2.2]) ∧ ((numR (l, 0)).2.2 = 0 → (k : Int) - (m : Int) = (took l : Int)) ∧ Below w.heap.size w w' := by
  have hl := hA.len
  obtain ⟨t1, t2, t3⟩ := numR_take l k (by omega)
  refine (codNumber_any (byt_take hA k (by omega)) (by omega)).mono ?_
  rintro e w' ⟨v, rfl, ho, hb⟩
  obtain ⟨B, m, d, rfl, hm, hB⟩ := ho.bytm
  refine ⟨B, m, d, by rw [t1, t2], fun h => ?_, hb⟩
  obtain ⟨h1, _⟩ := t3 h
  have := hm.out
  have hle := numR_len (l.take k, 0)
  rw [List.length_take] at h1
  simp only [List.length_take] at hle
  omega
/-- What is cut off: parts of what came, in whatever world that can be read. -/
def CutP (A : Option Addr) (n c : Nat) (l : List Int) (w : World) (e : Ending) (w' : World) : Prop :=
  ∃ v1 v2, e = .returned (.tuple #[v1, v2, .int .i64 (cutR l).2.2]) ∧
    ((cutR l).2.2 = 0 → ∃ A1 m1 d1 A2 m2 d2, v1 = .slice A1 m1 d1 ∧ v2 = .slice A2 m2 d2 ∧ ∀ w0, Byt w0 A n c l → Byt w0 A1 m1 d1 (cutR l).1 ∧ Byt w0 A2 m2 d2 (cutR l).2.1) ∧
    ((cutR l).2.2 ≠ 0 → v1 = .slice none 0 0 ∧ v2 = .slice none 0 0) ∧ Below w.heap.size w w'
theorem CutP.no {A : Option Addr} {n c : Nat} {l : List Int} {w : World} {e : Ending} {w' : World} (er : Int) (h : cutR l = ([], ([], er))) (hne : er ≠ 0) (he : e = .returned (.tuple #[.slice none 0 0, .slice none 0 0, .int .i64 er])) (hb : Below w.heap.size w w') : CutP A n c l w e w' :=
  ⟨_, _, by rw [h]; exact he, fun h0 => absurd (by rw [h] at h0; exact h0) hne, fun _ => ⟨rfl, rfl⟩, hb⟩

set_option maxRecDepth 100000 in
set_option maxHeartbeats 8000000 in
theorem cut_err {A : Option Addr} {n c k : Nat} {l : List Int} {w : World} (hA : Byt w A n c l) (hn : n ≤ 1000000000) (hk : (k = n ∧ n ≤ 10) ∨ (k = 10 ∧ 10 < n)) (her : (numR (l, 0)).2.2 ≠ 0) :
    Calls Tryd.prog 45 #[.slice A n c] w (CutP A n c l w) := by
  have HN := Lib.hid (number_head hA hn hk)
  have hcr : cutR l = ([], ([], (numR (l, 0)).2.2)) := by simp [cutR, her]
  have hn0 := hA.nil0
  have hcap := hA.cap
  obtain ⟨er, he⟩ : ∃ er, (numR (l, 0)).2.2 = er := ⟨_, rfl⟩
  obtain ⟨V, hV⟩ : ∃ V, (numR (l, 0)).1 = V := ⟨_, rfl⟩
  rw [he, hV] at HN
  rw [he] at hcr her
  have hne : (er != 0) = true := by simp [her]
  have HC := Lib.hid hcr; have HA := Lib.hid hA; have HMX := Lib.hid hA.max; have HE := Lib.hid her
  have hmin : (if (10 : Int) < (n : Int) then (10 : Int) else (n : Int)) = (k : Int) := by split <;> omega
  have hkn : k ≤ n := by omega
  clear hA hV he hcr her hk hn
  go_enter Tryd.func45, Tryd.ntmps45
  clear hn0
  go_wp2_with (go_at_call 47; refine HN.out.mono ?_; rintro e w1 ⟨B, m, d, rfl, hq, hb1⟩; have HQ := Lib.hid hq; clear hq)
  go_ret3
  exact CutP.no er HC.out HE.out rfl hb1

set_option maxRecDepth 100000 in
set_option maxHeartbeats 8000000 in
theorem cut_size {A : Option Addr} {n c k : Nat} {l : List Int} {w : World} (hA : Byt w A n c l) (hn : n ≤ 1000000000) (hk : (k = n ∧ n ≤ 10) ∨ (k = 10 ∧ 10 < n)) (her : (numR (l, 0)).2.2 = 0) (hsz : (numR (l, 0)).1 < 0 ∨ 1048576 < (numR (l, 0)).1) :
    Calls Tryd.prog 45 #[.slice A n c] w (CutP A n c l w) := by
  have HN := Lib.hid (number_head hA hn hk)
  have hcap := hA.cap
  obtain ⟨V, hV⟩ : ∃ V, (numR (l, 0)).1 = V := ⟨_, rfl⟩
  have hcr : cutR l = ([], ([], if V < 0 then 1 else 5)) := by
    simp only [cutR, her, if_true, hV]
    rw [hV] at hsz
    by_cases h : V < 0
    · simp [h]
    · have : 1048576 < V := by omega
      simp [h, this]
  rw [her, hV] at HN
  rw [hV] at hsz
  have HC := Lib.hid hcr; have HA := Lib.hid hA; have HMX := Lib.hid hA.max
  have hmin : (if (10 : Int) < (n : Int) then (10 : Int) else (n : Int)) = (k : Int) := by split <;> omega
  have hkn : k ≤ n := by omega
  clear hA hV hcr her hk hn
  by_cases hneg : V < 0
  · clear hsz
    go_enter Tryd.func45, Tryd.ntmps45
    go_wp2_with (go_at_call 47; refine HN.out.mono ?_; rintro e w1 ⟨B, m, d, rfl, hq, hb1⟩; have HQ := Lib.hid (hq rfl); clear hq)
    go_ret3
    exact CutP.no 1 (by rw [HC.out, if_pos hneg]) (by decide) rfl hb1
  · have hbig : 1048576 < V := by omega
    clear hsz
    go_enter Tryd.func45, Tryd.ntmps45
    go_wp2_with (go_at_call 47; refine HN.out.mono ?_; rintro e w1 ⟨B, m, d, rfl, hq, hb1⟩; have HQ := Lib.hid (hq rfl); clear hq)
    go_ret3
    exact CutP.no 5 (by rw [HC.out, if_neg (by omega)]) (by decide) rfl hb1

theorem took_le {l : List Int} (her : (numR (l, 0)).2.2 = 0) : (numR (l, 0)).2.1 = l.drop (took l) ∧ 0 < took l ∧ took l ≤ l.length := (numR_take l l.length (.inl rfl)).2.2 her |>.2

set_option maxRecDepth 100000 in
set_option maxHeartbeats 8000000 in
theorem cut_short {b off n c k sz : Nat} {l : List Int} {w : World} (hA : Byt w (some ⟨b, off, none⟩) n c l) (hn : n ≤ 1000000000) (hk : (k = n ∧ n ≤ 10) ∨ (k = 10 ∧ 10 < n)) (her : (numR (l, 0)).2.2 = 0) (hV : (numR (l, 0)).1 = (sz : Int)) (hsz : sz ≤ 1048576) (hsh : n - took l < 4 + sz) :
    Calls Tryd.prog 45 #[.slice (some ⟨b, off, none⟩) n c] w (CutP (some ⟨b, off, none⟩) n c l w) := by
  have HN := Lib.hid (number_head hA hn hk)
  have hcap := hA.cap
  have hl := hA.len
  obtain ⟨t1, t2, t3⟩ := took_le her
  have hcr : cutR l = ([], ([], 2)) := by
    have h1 : ¬ ((sz : Int) < 0) := by omega
    have h2 : ¬ (1048576 < (sz : Int)) := by omega
    have h3 : (((numR (l, 0)).2.1.length : Nat) : Int) < 4 + (sz : Int) := by rw [t1, List.length_drop]; omega
    simp only [cutR, her, if_true, hV, h1, h2, h3, if_false]
  rw [her, hV] at HN
  obtain ⟨q, hq⟩ : ∃ q, took l = q := ⟨_, rfl⟩
  rw [hq] at HN t2 t3 hsh
  have HC := Lib.hid hcr; have HA := Lib.hid hA; have HMX := Lib.hid hA.max
  have hmin : (if (10 : Int) < (n : Int) then (10 : Int) else (n : Int)) = (k : Int) := by split <;> omega
  have hkn : k ≤ n := by omega
  have hqn : q ≤ n := by omega
  have hszi : (sz : Int) ≤ 1048576 := by omega
  have hni : (n : Int) ≤ 1000000000 := by omega
  have hsh' : ((n - q : Nat) : Int) < 4 + (sz : Int) := by omega
  have HL := Lib.hid hl
  clear hA hV hcr her hk hn t1 t3 hq hl hsz hsh
  go_enter Tryd.func45, Tryd.ntmps45
  go_wp2_with (go_at_call 47; refine HN.out.mono ?_; rintro e w1 ⟨B, m, d, rfl, hq, hb1⟩; have hqq := hq rfl; clear hq)
  all_goals
    go_ret3
    exact CutP.no 2 HC.out (by decide) rfl hb1

theorem CutP.yes {A : Option Addr} {n c : Nat} {l P R : List Int} {w : World} {e : Ending} {w' : World} {A1 A2 : Option Addr} {m1 d1 m2 d2 : Nat} (h : cutR l = (P, (R, 0))) (he : e = .returned (.tuple #[.slice A1 m1 d1, .slice A2 m2 d2, .int .i64 0])) (h1 : ∀ w0, Byt w0 A n c l → Byt w0 A1 m1 d1 P ∧ Byt w0 A2 m2 d2 R) (hb : Below w.heap.size w w') : CutP A n c l w e w' :=
  ⟨_, _, by rw [h]; exact he, fun _ => ⟨A1, m1, d1, A2, m2, d2, rfl, rfl, fun w0 h0 => by rw [h]; exact h1 w0 h0⟩, fun h0 => absurd (by rw [h]) h0, hb⟩
theorem four_at {w : World} {b off n c : Nat} {l : List Int} (h : Byt w (some ⟨b, off, none⟩) n c l) (h4 : 4 ≤ n) : ∃ x0 x1 x2 x3, (0 ≤ x0 ∧ x0 ≤ 255) ∧ (0 ≤ x1 ∧ x1 ≤ 255) ∧ (0 ≤ x2 ∧ x2 ≤ 255) ∧ (0 ≤ x3 ∧ x3 ≤ 255) ∧ de4 l = x0 * 16777216 + x1 * 65536 + x2 * 256 + x3 ∧
    ∀ w', Below w.heap.size w w' → w'.cell? ⟨b, off, none⟩ = some (.int .u8 x0) ∧ w'.cell? ⟨b, off + 1, none⟩ = some (.int .u8 x1) ∧ w'.cell? ⟨b, off + 2, none⟩ = some (.int .u8 x2) ∧ w'.cell? ⟨b, off + 3, none⟩ = some (.int .u8 x3) := by
  obtain ⟨b0, o0, x0, e0, g0, c0, l0⟩ := h.at (k := 0) (by omega)
  obtain ⟨b1, o1, x1, e1, g1, c1, l1⟩ := h.at (k := 1) (by omega)
  obtain ⟨b2, o2, x2, e2, g2, c2, l2⟩ := h.at (k := 2) (by omega)
  obtain ⟨b3, o3, x3, e3, g3, c3, l3⟩ := h.at (k := 3) (by omega)
  simp only [Option.some.injEq, Addr.mk.injEq, and_true] at e0 e1 e2 e3
  obtain ⟨rfl, rfl⟩ := e0; obtain ⟨rfl, rfl⟩ := e1; obtain ⟨rfl, rfl⟩ := e2; obtain ⟨rfl, rfl⟩ := e3
  refine ⟨x0, x1, x2, x3, h.ran _ (List.mem_of_getElem? g0), h.ran _ (List.mem_of_getElem? g1), h.ran _ (List.mem_of_getElem? g2), h.ran _ (List.mem_of_getElem? g3), ?_, fun w' hb => ⟨(hb.cell (p := ⟨b, off, none⟩) l0).trans c0, (hb.cell (p := ⟨b, off + 1, none⟩) l0).trans c1, (hb.cell (p := ⟨b, off + 2, none⟩) l0).trans c2, (hb.cell (p := ⟨b, off + 3, none⟩) l0).trans c3⟩⟩
  simp [de4, List.getD, g0, g1, g2, g3]

set_option maxRecDepth 100000 in
set_option maxHeartbeats 8000000 in
theorem cut_full {b off n c k sz : Nat} {l : List Int} {w : World} (hA : Byt w (some ⟨b, off, none⟩) n c l) (hn : n ≤ 1000000000) (hk : (k = n ∧ n ≤ 10) ∨ (k = 10 ∧ 10 < n)) (her : (numR (l, 0)).2.2 = 0) (hV : (numR (l, 0)).1 = (sz : Int)) (hsz : sz ≤ 1048576) (hsh : ¬ n - took l < 4 + sz) (hpos : 0 < sz) :
    Calls Tryd.prog 45 #[.slice (some ⟨b, off, none⟩) n c] w (CutP (some ⟨b, off, none⟩) n c l w) := by
  have HN := Lib.hid (number_head hA hn hk)
  have hcap := hA.cap
  have hl := hA.len
  obtain ⟨t1, t2, t3⟩ := took_le her
  rw [her, hV] at HN
  obtain ⟨q, hq⟩ : ∃ q, took l = q := ⟨_, rfl⟩
  rw [hq] at HN t1 t2 t3 hsh
  have hR := byt_drop hA q (by omega)
  obtain ⟨x0, x1, x2, x3, r0, r1, r2, r3, hde, hc⟩ := four_at hR (by omega)
  have HX := Lib.hid hc
  have HMX := Lib.hid hA.max
  have hmin : (if (10 : Int) < (n : Int) then (10 : Int) else (n : Int)) = (k : Int) := by split <;> omega
  have hkn : k ≤ n := by omega
  have hqn : q < n := by omega
  have hqc : ¬ c = q := by omega
  have hszi : (sz : Int) ≤ 1048576 := by omega
  have hni : (n : Int) ≤ 1000000000 := by omega
  have hsh' : ¬ ((n - q : Nat) : Int) < 4 + (sz : Int) := by omega
  have hsh2 : 4 + sz ≤ n - q := by omega
  have i0 : (0 : Int) < ((n - q : Nat) : Int) := by omega
  have i1 : (1 : Int) < ((n - q : Nat) : Int) := by omega
  have i2 : (2 : Int) < ((n - q : Nat) : Int) := by omega
  have i3 : (3 : Int) < ((n - q : Nat) : Int) := by omega
  have hP0 := byt_take (byt_drop hR 4 (by omega)) sz (by omega)
  have hP : Byt w (some ⟨b, off + q + 4, none⟩) (4 + sz - 4) (4 + sz - 4) (((l.drop q).drop 4).take sz) := by
    rw [show 4 + sz - 4 = sz by omega]; exact hP0.full
  obtain ⟨D, hD⟩ : ∃ D, x0 * 16777216 + x1 * 65536 + x2 * 256 + x3 = D := ⟨_, rfl⟩
  have hor := or4 r0 r1 r2 r3
  rw [hD] at hor hde
  have hcr : cutR l = if D = (fnv (((l.drop q).drop 4).take sz) : Int) then (((l.drop q).drop 4).take sz, ((l.drop q).drop (4 + sz), 0)) else ([], ([], 4)) := by
    have h1 : ¬ ((sz : Int) < 0) := by omega
    have h2 : ¬ (1048576 < (sz : Int)) := by omega
    have h3 : ¬ ((((l.drop q).length : Nat) : Int) < 4 + (sz : Int)) := by rw [List.length_drop]; omega
    simp only [cutR, her, if_true, hV, h1, h2, t1, h3, if_false, hde, Int.toNat_natCast]
  have HC := Lib.hid hcr
  obtain ⟨F, hF⟩ : ∃ F, fnv (((l.drop q).drop 4).take sz) = F := ⟨_, rfl⟩
  have HS := Lib.hid (fun (w' : World) (hw : Below w.heap.size w w') => sum_any (hP0.full.below hw) (by omega))
  rw [hF] at HS HC
  have HP := Lib.hid hP; have HP1 := Lib.hid hP0.full
  have HL := Lib.hid hl; have HR := Lib.hid hR; have HDE := Lib.hid hde; have HER := Lib.hid her; have HV := Lib.hid hV; have HQ := Lib.hid hq; have HA := Lib.hid hA
  have HT := Lib.hid t1
  clear hA hV her hk hn t1 t3 hq hl hsz hsh hR hde hc hP0 hP hF hD hcr
  by_cases hDF : D = (F : Int)
  · have hne : (D != (F : Int)) = false := by simp [hDF]
    have HDF := Lib.hid hDF; clear hDF
    rw [if_pos HDF.out] at HC
    by_cases hcq : c - q = 4 + sz
    · go_enter Tryd.func45, Tryd.ntmps45
      go_wp2_with (go_at_call 47; refine HN.out.mono ?_; rintro e w1 ⟨B, m, d, rfl, hq, hb1⟩; have hqq := hq rfl; obtain ⟨c0, c1, c2, c3⟩ := HX.out w1 hb1; clear hq)
      go_quiet (fail)
      go_wp2_with (go_at_call 28; refine (HS.out _ (below_drawn hb1 _)).mono ?_; rintro e w2 ⟨rfl, rfl⟩)
      go_quiet (fail)
      go_wp2
      go_ret3
      refine CutP.yes HC.out rfl (fun w0 h0 => ⟨(byt_take (byt_drop (byt_drop h0 q (Nat.le_of_lt hqn)) 4 (by omega)) sz (by omega)).full, ?_⟩) (below_drawn (below_drawn hb1 _) _)
      have hz : n - q - (4 + sz) = 0 := by omega
      rw [hz, List.drop_eq_nil_of_le (by rw [List.length_drop]; have := HL.out; omega)]
      exact byt_none (by unfold maxLen; omega) (by intro h; cases h)
    · go_enter Tryd.func45, Tryd.ntmps45
      go_wp2_with (go_at_call 47; refine HN.out.mono ?_; rintro e w1 ⟨B, m, d, rfl, hq, hb1⟩; have hqq := hq rfl; obtain ⟨c0, c1, c2, c3⟩ := HX.out w1 hb1; clear hq)
      go_quiet (fail)
      go_wp2_with (go_at_call 28; refine (HS.out _ (below_drawn hb1 _)).mono ?_; rintro e w2 ⟨rfl, rfl⟩)
      go_quiet (fail)
      go_wp2
      go_ret3
      exact CutP.yes HC.out rfl (fun w0 h0 => ⟨(byt_take (byt_drop (byt_drop h0 q (Nat.le_of_lt hqn)) 4 (by omega)) sz (by omega)).full, byt_drop (byt_drop h0 q (Nat.le_of_lt hqn)) (4 + sz) (by omega)⟩) (below_drawn (below_drawn hb1 _) _)
  · have hne : (D != (F : Int)) = true := by simp [hDF]
    have HDF := Lib.hid hDF; clear hDF
    rw [if_neg HDF.out] at HC
    go_enter Tryd.func45, Tryd.ntmps45
    go_wp2_with (go_at_call 47; refine HN.out.mono ?_; rintro e w1 ⟨B, m, d, rfl, hq, hb1⟩; have hqq := hq rfl; obtain ⟨c0, c1, c2, c3⟩ := HX.out w1 hb1; clear hq)
    go_quiet (fail)
    go_wp2_with (go_at_call 28; refine (HS.out _ (below_drawn hb1 _)).mono ?_; rintro e w2 ⟨rfl, rfl⟩)
    go_ret3
    exact CutP.no 4 HC.out (by decide) rfl (below_drawn hb1 _)

set_option maxRecDepth 100000 in
set_option maxHeartbeats 8000000 in
theorem cut_zero {b off n c k : Nat} {l : List Int} {w : World} (hA : Byt w (some ⟨b, off, none⟩) n c l) (hn : n ≤ 1000000000) (hk : (k = n ∧ n ≤ 10) ∨ (k = 10 ∧ 10 < n)) (her : (numR (l, 0)).2.2 = 0) (hV : (numR (l, 0)).1 = 0) (hsh : ¬ n - took l < 4) :
    Calls Tryd.prog 45 #[.slice (some ⟨b, off, none⟩) n c] w (CutP (some ⟨b, off, none⟩) n c l w) := by
  have HN := Lib.hid (number_head hA hn hk)
  have hcap := hA.cap
  have hl := hA.len
  obtain ⟨t1, t2, t3⟩ := took_le her
  rw [her, hV] at HN
  obtain ⟨q, hq⟩ : ∃ q, took l = q := ⟨_, rfl⟩
  rw [hq] at HN t1 t2 t3 hsh
  have hR := byt_drop hA q (by omega)
  obtain ⟨x0, x1, x2, x3, r0, r1, r2, r3, hde, hc⟩ := four_at hR (by omega)
  have HX := Lib.hid hc
  have HMX := Lib.hid hA.max
  have hmin : (if (10 : Int) < (n : Int) then (10 : Int) else (n : Int)) = (k : Int) := by split <;> omega
  have hkn : k ≤ n := by omega
  have hqn : q < n := by omega
  have hqc : ¬ c = q := by omega
  have hni : (n : Int) ≤ 1000000000 := by omega
  have hsh' : ¬ ((n - q : Nat) : Int) < 4 := by omega
  have hsh2 : 4 ≤ n - q := by omega
  have i0 : (0 : Int) < ((n - q : Nat) : Int) := by omega
  have i1 : (1 : Int) < ((n - q : Nat) : Int) := by omega
  have i2 : (2 : Int) < ((n - q : Nat) : Int) := by omega
  have i3 : (3 : Int) < ((n - q : Nat) : Int) := by omega
  have hP1 : Byt w (some ⟨b, off + q, none⟩) 0 0 (((l.drop q).drop 4).take 0) := byt_none (by unfold maxLen; omega) (by intro h; cases h)
  have HP1 := Lib.hid hP1
  obtain ⟨D, hD⟩ : ∃ D, x0 * 16777216 + x1 * 65536 + x2 * 256 + x3 = D := ⟨_, rfl⟩
  have hor := or4 r0 r1 r2 r3
  rw [hD] at hor hde
  have hcr : cutR l = if D = (fnv (((l.drop q).drop 4).take 0) : Int) then (((l.drop q).drop 4).take 0, ((l.drop q).drop 4, 0)) else ([], ([], 4)) := by
    have h1 : ¬ ((0 : Int) < 0) := by omega
    have h2 : ¬ ((1048576 : Int) < 0) := by omega
    have h3 : ¬ ((((l.drop q).length : Nat) : Int) < 4 + 0) := by rw [List.length_drop]; omega
    simp only [cutR, her, if_true, hV, h1, h2, t1, h3, if_false, hde, Int.toNat_zero, Nat.add_zero]
  have HC := Lib.hid hcr
  obtain ⟨F, hF⟩ : ∃ F, fnv (((l.drop q).drop 4).take 0) = F := ⟨_, rfl⟩
  have HS := Lib.hid (fun (w' : World) (hw : Below w.heap.size w w') => sum_any (hP1.below hw) (by omega))
  rw [hF] at HS HC
  have HL := Lib.hid hl; have HR := Lib.hid hR; have HDE := Lib.hid hde; have HER := Lib.hid her; have HV := Lib.hid hV; have HQ := Lib.hid hq; have HA := Lib.hid hA
  have HT := Lib.hid t1
  clear hA hV her hk hn t1 t3 hq hl hsh hR hde hc hP1 hF hD hcr
  by_cases hDF : D = (F : Int)
  · have hne : (D != (F : Int)) = false := by simp [hDF]
    have HDF := Lib.hid hDF; clear hDF
    rw [if_pos HDF.out] at HC
    by_cases hcq : c - q = 4
    · go_enter Tryd.func45, Tryd.ntmps45
      go_wp2_with (go_at_call 47; refine HN.out.mono ?_; rintro e w1 ⟨B, m, d, rfl, hq, hb1⟩; have hqq := hq rfl; obtain ⟨c0, c1, c2, c3⟩ := HX.out w1 hb1; clear hq)
      go_quiet (fail)
      go_wp2_with (go_at_call 28; refine (HS.out _ (below_drawn hb1 _)).mono ?_; rintro e w2 ⟨rfl, rfl⟩)
      go_quiet (fail)
      go_wp2
      go_ret3
      refine CutP.yes HC.out rfl (fun w0 h0 => ⟨byt_none (by unfold maxLen; omega) (by intro h; cases h), ?_⟩) (below_drawn (below_drawn hb1 _) _)
      have hz : n - q - 4 = 0 := by omega
      rw [hz, List.drop_eq_nil_of_le (by rw [List.length_drop]; have := HL.out; omega)]
      exact byt_none (by unfold maxLen; omega) (by intro h; cases h)
    · go_enter Tryd.func45, Tryd.ntmps45
      go_wp2_with (go_at_call 47; refine HN.out.mono ?_; rintro e w1 ⟨B, m, d, rfl, hq, hb1⟩; have hqq := hq rfl; obtain ⟨c0, c1, c2, c3⟩ := HX.out w1 hb1; clear hq)
      go_quiet (fail)
      go_wp2_with (go_at_call 28; refine (HS.out _ (below_drawn hb1 _)).mono ?_; rintro e w2 ⟨rfl, rfl⟩)
      go_quiet (fail)
      go_wp2
      go_ret3
      exact CutP.yes HC.out rfl (fun w0 h0 => ⟨byt_none (by unfold maxLen; omega) (by intro h; cases h), byt_drop (byt_drop h0 q (Nat.le_of_lt hqn)) 4 (by omega)⟩) (below_drawn (below_drawn hb1 _) _)
  · have hne : (D != (F : Int)) = true := by simp [hDF]
    have HDF := Lib.hid hDF; clear hDF
    rw [if_neg HDF.out] at HC
    go_enter Tryd.func45, Tryd.ntmps45
    go_wp2_with (go_at_call 47; refine HN.out.mono ?_; rintro e w1 ⟨B, m, d, rfl, hq, hb1⟩; have hqq := hq rfl; obtain ⟨c0, c1, c2, c3⟩ := HX.out w1 hb1; clear hq)
    go_quiet (fail)
    go_wp2_with (go_at_call 28; refine (HS.out _ (below_drawn hb1 _)).mono ?_; rintro e w2 ⟨rfl, rfl⟩)
    go_ret3
    exact CutP.no 4 HC.out (by decide) rfl (below_drawn hb1 _)

theorem cut_any {A : Option Addr} {n c : Nat} {l : List Int} {w : World} (hA : Byt w A n c l) (hn : n ≤ 1000000000) :
    Calls Tryd.prog 45 #[.slice A n c] w (CutP A n c l w) := by
  obtain ⟨k, hk⟩ : ∃ k, (k = n ∧ n ≤ 10) ∨ (k = 10 ∧ 10 < n) := by
    rcases Nat.lt_or_ge 10 n with h | h
    · exact ⟨10, .inr ⟨rfl, h⟩⟩
    · exact ⟨n, .inl ⟨rfl, h⟩⟩
  by_cases her : (numR (l, 0)).2.2 = 0
  · by_cases hsz : (numR (l, 0)).1 < 0 ∨ 1048576 < (numR (l, 0)).1
    · exact cut_size hA hn hk her hsz
    · obtain ⟨t1, t2, t3⟩ := took_le her
      have hl := hA.len
      obtain ⟨b, off, x, rfl, _⟩ := hA.at (k := 0) (by omega)
      obtain ⟨sz, hV⟩ : ∃ sz : Nat, (numR (l, 0)).1 = (sz : Int) := ⟨(numR (l, 0)).1.toNat, by omega⟩
      by_cases hsh : n - took l < 4 + sz
      · exact cut_short hA hn hk her hV (by omega) hsh
      · rcases Nat.eq_zero_or_pos sz with rfl | hp
        · exact cut_zero hA hn hk her hV (by omega)
        · exact cut_full hA hn hk her hV (by omega) hsh hp
  · exact cut_err hA hn hk her
end Go.Proofs.YtobkafkknbdacaaDoor
