/- Contracts: Cover, Minus, Common and Total of the program and of the reference. -/
import Derived.Test.YtigohhliblgdhaaIvCmbM
import Derived.Test.YtigohhliblgdhaaIvCmbV
import Derived.Test.YtigohhliblgdhaaIvCmbC
import Derived.Test.YtigohhliblgdhaaIvCho
import Derived.Test.YtigohhliblgdhaaIvCutM
namespace Go.Proofs.Ytigohhliblgdhaa
open Go.RowKit

theorem CanOut.pd {f : Bool → Bool → Bool} (hf : f false false = false) {la lb : List Pd} {w : World} {e : Ending} {w' : World} (h : CanOut f la lb w e w') : PdOut (cmb f la lb) w e w' := by
  obtain ⟨E, hp, hs, h⟩ := h
  rwa [scn_cmb hf hp hs] at h
theorem ch_cmb {f : Bool → Bool → Bool} {ig ib : Bool} (h : ∀ x y, chF ig ib x y = f x y) (la lb : List Pd) : chA (fun t => chF ig ib (mem la t) (mem lb t)) (lim (lim [] la) lb) = cmb f la lb := by
  unfold cmb
  rw [show (fun t => chF ig ib (mem la t) (mem lb t)) = fun t => f (mem la t) (mem lb t) from funext fun t => h _ _]
theorem pdout_w0 {l : List Pd} {w w1 : World} {e : Ending} {w' : World} (h : PdOut l w1 e w') (hb : Below w.heap.size w w1) : PdOut l w e w' := by
  obtain ⟨A, c, h1, h2, h3, h4⟩ := h
  exact ⟨A, c, h1, h2, h3, hb.trans (h4.mono hb.size)⟩
set_option maxHeartbeats 1000000 in
theorem cover_any (A : Option Addr) (m c : Nat) (la : List Pd) (w : World) (hA : PR w A la) (hm : la.length = m) (hmc : m ≤ c) (h5 : m ≤ 1000) :
    Calls Try.prog 20 #[.slice A m c] w (PdOut (cmb fCover la []) w) := by
  have H := Lib.hid ((combine_Cover A none m 0 c 0 la [] w hA PR.nil hm rfl hmc (Nat.le_refl _) (by omega)).mono fun _ _ h => h.pd rfl)
  clear hA hm
  go_enter Try.func20, Try.ntmps20
  go_wp2_with (go_at_call 33; (with_reducible refine H.out.mono ?_); rintro e w1 ⟨R, r, rfl, hr, hR, hb⟩)
  go_ret
  exact ⟨R, r, rfl, hr, hR, hb⟩
set_option maxHeartbeats 1000000 in
theorem minus_any (A B : Option Addr) (m n c c' : Nat) (la lb : List Pd) (w : World) (hA : PR w A la) (hB : PR w B lb) (hm : la.length = m) (hn : lb.length = n) (hmc : m ≤ c) (hnc : n ≤ c') (h5 : m + n ≤ 1000) :
    Calls Try.prog 24 #[.slice A m c, .slice B n c'] w (PdOut (cmb fMinus la lb) w) := by
  have H := Lib.hid ((combine_Minus A B m n c c' la lb w hA hB hm hn hmc hnc h5).mono fun _ _ h => h.pd rfl)
  clear hA hB hm hn
  go_enter Try.func24, Try.ntmps24
  go_wp2_with (go_at_call 33; (with_reducible refine H.out.mono ?_); rintro e w1 ⟨R, r, rfl, hr, hR, hb⟩)
  go_ret
  exact ⟨R, r, rfl, hr, hR, hb⟩
set_option maxHeartbeats 1000000 in
theorem common_any (A B : Option Addr) (m n c c' : Nat) (la lb : List Pd) (w : World) (hA : PR w A la) (hB : PR w B lb) (hm : la.length = m) (hn : lb.length = n) (hmc : m ≤ c) (hnc : n ≤ c') (h5 : m + n ≤ 1000) :
    Calls Try.prog 26 #[.slice A m c, .slice B n c'] w (PdOut (cmb fCommon la lb) w) := by
  have H := Lib.hid ((combine_Common A B m n c c' la lb w hA hB hm hn hmc hnc h5).mono fun _ _ h => h.pd rfl)
  clear hA hB hm hn
  go_enter Try.func26, Try.ntmps26
  go_wp2_with (go_at_call 33; (with_reducible refine H.out.mono ?_); rintro e w1 ⟨R, r, rfl, hr, hR, hb⟩)
  go_ret
  exact ⟨R, r, rfl, hr, hR, hb⟩
set_option maxHeartbeats 1000000 in
theorem refCover_any (A : Option Addr) (m c : Nat) (la : List Pd) (w : World) (hA : PR w A la) (hm : la.length = m) (hmc : m ≤ c) (h5 : m ≤ 1000) :
    Calls Try.prog 21 #[.slice A m c] w (PdOut (cmb fCover la []) w) := by
  have H0 := choose_any A none m 0 c 0 la [] true false w hA PR.nil hm rfl hmc (Nat.le_refl _) (by omega)
  rw [ch_cmb (f := fCover) (fun x y => by cases x <;> cases y <;> rfl)] at H0
  have H := Lib.hid H0
  clear hA hm H0
  go_enter Try.func21, Try.ntmps21
  go_wp2_with (go_at_call 35; (with_reducible refine H.out.mono ?_); rintro e w1 ⟨R, r, rfl, hr, hR, hb⟩)
  go_ret
  exact ⟨R, r, rfl, hr, hR, hb⟩
set_option maxHeartbeats 1000000 in
theorem refMinus_any (A B : Option Addr) (m n c c' : Nat) (la lb : List Pd) (w : World) (hA : PR w A la) (hB : PR w B lb) (hm : la.length = m) (hn : lb.length = n) (hmc : m ≤ c) (hnc : n ≤ c') (h5 : m + n ≤ 1000) :
    Calls Try.prog 25 #[.slice A m c, .slice B n c'] w (PdOut (cmb fMinus la lb) w) := by
  have H0 := choose_any A B m n c c' la lb false false w hA hB hm hn hmc hnc h5
  rw [ch_cmb (f := fMinus) (fun x y => by cases x <;> cases y <;> rfl)] at H0
  have H := Lib.hid H0
  clear hA hB hm hn H0
  go_enter Try.func25, Try.ntmps25
  go_wp2_with (go_at_call 35; (with_reducible refine H.out.mono ?_); rintro e w1 ⟨R, r, rfl, hr, hR, hb⟩)
  go_ret
  exact ⟨R, r, rfl, hr, hR, hb⟩
set_option maxHeartbeats 1000000 in
theorem refCommon_any (A B : Option Addr) (m n c c' : Nat) (la lb : List Pd) (w : World) (hA : PR w A la) (hB : PR w B lb) (hm : la.length = m) (hn : lb.length = n) (hmc : m ≤ c) (hnc : n ≤ c') (h5 : m + n ≤ 1000) :
    Calls Try.prog 27 #[.slice A m c, .slice B n c'] w (PdOut (cmb fCommon la lb) w) := by
  have H0 := choose_any A B m n c c' la lb false true w hA hB hm hn hmc hnc h5
  rw [ch_cmb (f := fCommon) (fun x y => by cases x <;> cases y <;> rfl)] at H0
  have H := Lib.hid H0
  clear hA hB hm hn H0
  go_enter Try.func27, Try.ntmps27
  go_wp2_with (go_at_call 35; (with_reducible refine H.out.mono ?_); rintro e w1 ⟨R, r, rfl, hr, hR, hb⟩)
  go_ret
  exact ⟨R, r, rfl, hr, hR, hb⟩
/-- Sums of lengths. -/
theorem len_take_step {l : List Pd} {k : Nat} {u z : Int} (h : k < l.length) (hp : l.getD k (0, 0) = (u, z)) : len (l.take (k + 1)) = len (l.take k) + (z - u) := by
  rw [take_step h, hp, len_append, len_cons, len_nil]; omega
theorem len_part {l : List Pd} (h : ∀ q ∈ l, vl q = true) (k : Nat) : 0 ≤ len (l.take k) ∧ len (l.take k) ≤ len l := by
  have h1 := len_nonneg (l := l.take k) fun q hq => h q (List.mem_of_mem_take hq)
  have h2 := len_nonneg (l := l.drop k) fun q hq => h q (List.mem_of_mem_drop hq)
  have h3 := len_append (l.take k) (l.drop k)
  rw [List.take_append_drop] at h3
  omega
theorem vl_at {l : List Pd} (h : ∀ q ∈ l, vl q = true) {k : Nat} (hk : k < l.length) : 0 ≤ (l.getD k (0, 0)).1 ∧ (l.getD k (0, 0)).1 < (l.getD k (0, 0)).2 ∧ (l.getD k (0, 0)).2 ≤ 12622780800 :=
  vl_iff.1 (h _ (by simp [List.getD, List.getElem?_eq_getElem hk]))
set_option maxHeartbeats 2000000 in
theorem total_any (A : Option Addr) (m c : Nat) (la : List Pd) (w : World) (hA : PR w A la) (hm : la.length = m) (hmc : m ≤ c) (h5 : m ≤ 1000) :
    Calls Try.prog 22 #[.slice A m c] w fun e w' => e = .returned (.int .i64 (len (cmb fCover la []))) ∧ Below w.heap.size w w' := by
  have H := Lib.hid (cover_any A m c la w hA hm hmc h5)
  have hc := (cmb_spec (f := fCover) rfl la []).1
  have hl := cmb_length fCover la []
  rw [hm] at hl
  have hll := len_le hc
  have HP := Lib.hid (fun k => len_part hc.1 k)
  have HVL := Lib.hid (fun k hk => vl_at hc.1 (k := k) hk)
  generalize cmb fCover la [] = l at *
  simp only [List.length_nil, Nat.mul_zero, Nat.add_zero] at hl
  obtain ⟨N, hN⟩ : ∃ N, l.length = N := ⟨_, rfl⟩
  have HN := Lib.hid hN
  rw [hN] at hl
  clear hA hm hc hN
  go_enter Try.func22, Try.ntmps22
  go_wp2_with fail
  refine H.out.mono ?_
  rintro e w1 ⟨R, r, rfl, hr, hR, hb⟩
  have HR := Lib.hid hR
  have HB := Lib.hid hb
  rw [HN.out] at hr ⊢
  have hws := hb.size
  clear hR hb H
  go_wp2
  go_loopw [3, 9] (fun s i wr => ∃ (k : Nat) (x : Int), k ≤ N ∧ i = .int .i64 k ∧ s = .int .i64 x ∧ Hid (len (l.take k) = x) ∧ Below w1.heap.size w1 wr) (fun _ i _ => N - (intOf i).toNat)
  case atStart => exact ⟨0, 0, by omega, rfl, rfl, Lib.hid (by rw [List.take_zero]; rfl), Below.refl _ _⟩
  case round =>
    obtain ⟨k, x, hk, rfl, rfl, HX, hbr⟩ := hrel
    have hs := hbr.size
    have hx := HP.out k
    rw [HX.out] at hx
    by_cases hlt : k < N
    · obtain ⟨bk, off, rfl, hbl, d0, d1⟩ := HR.out k (by rw [HN.out]; exact hlt)
      have hv := HVL.out k (by rw [HN.out]; exact hlt)
      have e0 := (hbr.cell (p := ⟨bk, off + k * 2, none⟩) hbl).trans d0
      have e1 := (hbr.cell (p := ⟨bk, off + k * 2 + 1, none⟩) hbl).trans d1
      have hlt' : (k : Int) < (N : Int) := by omega
      have h0' : (0 : Int) ≤ (k : Int) := by omega
      obtain ⟨p, hp⟩ : ∃ p, l.getD k (0, 0) = p := ⟨_, rfl⟩
      obtain ⟨u, z⟩ := p
      have HS := Lib.hid (len_take_step (show k < l.length by rw [HN.out]; exact hlt) hp)
      rw [hp] at e0 e1 hv
      simp only at e0 e1 hv
      obtain ⟨v1, v2, v3⟩ := hv
      clear hp d0 d1
      go_wp2
      go_roundw
      case rel => exact ⟨k + 1, x + (z - u), by omega, by go_num, rfl, Lib.hid (by rw [HS.out, HX.out]), hbr.alloc (by omega) _⟩
      case measure => simp [intOf]; omega
    · obtain rfl : k = N := by omega
      have HX2 : Hid (len l = x) := Lib.hid (by have := HX.out; rw [← HN.out, List.take_length] at this; exact this)
      go_wp2
      go_ret
      exact ⟨ret_int HX2.out.symm, HB.out.trans (hbr.mono hws)⟩
set_option maxHeartbeats 2000000 in
theorem refTotal_any (A : Option Addr) (m c : Nat) (la : List Pd) (w : World) (hA : PR w A la) (hm : la.length = m) (hmc : m ≤ c) (h5 : m ≤ 1000) :
    Calls Try.prog 23 #[.slice A m c] w fun e w' => e = .returned (.int .i64 (len (cmb fCover la []))) ∧ Below w.heap.size w w' := by
  have H := Lib.hid (refCover_any A m c la w hA hm hmc h5)
  have hc := (cmb_spec (f := fCover) rfl la []).1
  have hl := cmb_length fCover la []
  rw [hm] at hl
  have hll := len_le hc
  have HP := Lib.hid (fun k => len_part hc.1 k)
  have HVL := Lib.hid (fun k hk => vl_at hc.1 (k := k) hk)
  generalize cmb fCover la [] = l at *
  simp only [List.length_nil, Nat.mul_zero, Nat.add_zero] at hl
  obtain ⟨N, hN⟩ : ∃ N, l.length = N := ⟨_, rfl⟩
  have HN := Lib.hid hN
  rw [hN] at hl
  clear hA hm hc hN
  go_enter Try.func23, Try.ntmps23
  go_wp2_with fail
  refine H.out.mono ?_
  rintro e w1 ⟨R, r, rfl, hr, hR, hb⟩
  have HR := Lib.hid hR
  have HB := Lib.hid hb
  rw [HN.out] at hr ⊢
  have hws := hb.size
  clear hR hb H
  go_wp2
  go_loopw [4, 5] (fun s i wr => ∃ (k : Nat) (x : Int), k ≤ N ∧ i = .int .i64 k ∧ s = .int .i64 x ∧ Hid (len (l.take k) = x) ∧ Below w1.heap.size w1 wr) (fun _ i _ => N - (intOf i).toNat)
  case atStart => exact ⟨0, 0, by omega, rfl, rfl, Lib.hid (by rw [List.take_zero]; rfl), Below.refl _ _⟩
  case round =>
    obtain ⟨k, x, hk, rfl, rfl, HX, hbr⟩ := hrel
    have hs := hbr.size
    have hx := HP.out k
    rw [HX.out] at hx
    by_cases hlt : k < N
    · obtain ⟨bk, off, rfl, hbl, d0, d1⟩ := HR.out k (by rw [HN.out]; exact hlt)
      have hv := HVL.out k (by rw [HN.out]; exact hlt)
      have e0 := (hbr.cell (p := ⟨bk, off + k * 2, none⟩) hbl).trans d0
      have e1 := (hbr.cell (p := ⟨bk, off + k * 2 + 1, none⟩) hbl).trans d1
      have hlt' : (k : Int) < (N : Int) := by omega
      have h0' : (0 : Int) ≤ (k : Int) := by omega
      obtain ⟨p, hp⟩ : ∃ p, l.getD k (0, 0) = p := ⟨_, rfl⟩
      obtain ⟨u, z⟩ := p
      have HS := Lib.hid (len_take_step (show k < l.length by rw [HN.out]; exact hlt) hp)
      rw [hp] at e0 e1 hv
      simp only at e0 e1 hv
      obtain ⟨v1, v2, v3⟩ := hv
      have wr1 : IntKind.i64.wrap (x + z) = x + z := IntWalk.i64_in _ (by omega)
      have wr2 : IntKind.i64.wrap (x + z - u) = x + z - u := IntWalk.i64_in _ (by omega)
      clear hp d0 d1
      go_wp2
      go_quiet (fail)
      go_wp2
      go_roundw
      case rel => exact ⟨k + 1, x + z - u, by omega, by go_num, rfl, Lib.hid (by rw [HS.out, HX.out]; omega), below_drewN hbr _⟩
      case measure => simp [intOf]; omega
    · obtain rfl : k = N := by omega
      have HX2 : Hid (len l = x) := Lib.hid (by have := HX.out; rw [← HN.out, List.take_length] at this; exact this)
      go_wp2
      go_ret
      exact ⟨ret_int HX2.out.symm, HB.out.trans (hbr.mono hws)⟩
end Go.Proofs.Ytigohhliblgdhaa
