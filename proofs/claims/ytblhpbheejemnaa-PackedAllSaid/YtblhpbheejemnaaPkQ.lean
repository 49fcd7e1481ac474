/- Walk: Decode of the reference. -/
import Derived.Test.YtblhpbheejemnaaPkZ
import Derived.BigRegion
import Derived.Test.YtblhpbheejemnaaRegY
import Derived.Deep.Cut
import Derived.Deep.CutRange
import Derived.Deep.MidRow
namespace Go.Proofs.Ytblhpbheejemnaa
open Go.RowKit

theorem intInfo : (Try.prog.info? 3).map (fun i => (i.zero, i.size, i.bytes)) = some (some (.int .i64 0), 1, 8) := by kernel_rfl
def frL : List Nat := [0, 1, 23, 29, 36, 41, 42]
def toL : List Nat := [1, 6, 29, 36, 41, 42, 44]
def fdk (T : List Int) (k : Nat) : List Int := fd T (frL.getD k 0) (toL.getD k 0 - frL.getD k 0)
/-- Whether the first k numbers have their form. -/
def okk (T : List Int) (k : Nat) : Bool := (List.range k).all fun j => !bad (fdk T j)
theorem okk_succ (T : List Int) (k : Nat) : okk T (k + 1) = (okk T k && !bad (fdk T k)) := by unfold okk; rw [List.range_succ, List.all_append]; simp
def xsk (T : List Int) (k : Nat) : List Value := (List.range k).map fun j => .int .i64 (deL (fdk T j)).1
theorem xsk_len (T : List Int) (k : Nat) : (xsk T k).length = k := by simp [xsk]
theorem xsk_succ (T : List Int) (k : Nat) : xsk T (k + 1) = xsk T k ++ [.int .i64 (deL (fdk T k)).1] := by unfold xsk; rw [List.range_succ, List.map_append]; rfl
theorem xsk_at (T : List Int) {k j : Nat} (h : j < k) : (xsk T k)[j]? = some (.int .i64 (deL (fdk T j)).1) := by unfold xsk; simp [h]
theorem fr_to {k : Nat} (h : k < 7) : frL.getD k 0 < toL.getD k 0 ∧ toL.getD k 0 ≤ 44 ∧ toL.getD k 0 - frL.getD k 0 ≤ 7 := by
  have key : ∀ n : Fin 7, frL.getD n.val 0 < toL.getD n.val 0 ∧ toL.getD n.val 0 ≤ 44 ∧ toL.getD n.val 0 - frL.getD n.val 0 ≤ 7 := by decide
  exact key ⟨k, h⟩
theorem fr_cell {W : World} {k : Nat} {g : Nat} (hg : W.heap[g]? = some (.cells #[.int .i64 0, .int .i64 1, .int .i64 23, .int .i64 29, .int .i64 36, .int .i64 41, .int .i64 42] 3 (0, 0))) (h : k < 7) : W.cell? ⟨g, k, none⟩ = some (.int .i64 ((frL.getD k 0 : Nat) : Int)) := by
  rw [cell_of_row W g k _ _ _ hg]
  match k, h with
  | 0, _ => rfl
  | 1, _ => rfl
  | 2, _ => rfl
  | 3, _ => rfl
  | 4, _ => rfl
  | 5, _ => rfl
  | 6, _ => rfl
theorem to_cell {W : World} {k : Nat} {g : Nat} (hg : W.heap[g]? = some (.cells #[.int .i64 1, .int .i64 6, .int .i64 29, .int .i64 36, .int .i64 41, .int .i64 42, .int .i64 44] 3 (0, 0))) (h : k < 7) : W.cell? ⟨g, k, none⟩ = some (.int .i64 ((toL.getD k 0 : Nat) : Int)) := by
  rw [cell_of_row W g k _ _ _ hg]
  match k, h with
  | 0, _ => rfl
  | 1, _ => rfl
  | 2, _ => rfl
  | 3, _ => rfl
  | 4, _ => rfl
  | 5, _ => rfl
  | 6, _ => rfl
theorem fd_take {l : List Int} {a s : Nat} (h : a + s ≤ 44) : fd (l.take 44) a s = fd l a s := by
  unfold fd
  rw [List.drop_take, List.take_take]
  congr 1
  omega
theorem rdW_eq (T : List Int) : (!rdW T) = (((decide (T.getD 6 0 % 16 ≤ 3) && okk T 7) && (txP (fd T 7 8) 15).2) && (txP (fd T 15 8) 15).2) := by
  have h3 : decide (3 < T.getD 6 0 % 16) = !decide (T.getD 6 0 % 16 ≤ 3) := by
    by_cases h : 3 < T.getD 6 0 % 16
    · rw [decide_eq_true h, decide_eq_false (by omega)]; rfl
    · rw [decide_eq_false h, decide_eq_true (by omega)]; rfl
  unfold rdW
  rw [h3]
  have e : okk T 7 = (((((((true && !bad (fd T 0 1)) && !bad (fd T 1 5)) && !bad (fd T 23 6)) && !bad (fd T 29 7)) && !bad (fd T 36 5)) && !bad (fd T 41 1)) && !bad (fd T 42 2)) := by
    rw [okk_succ, okk_succ, okk_succ, okk_succ, okk_succ, okk_succ, okk_succ]; rfl
  rw [e]
  generalize bad (fd T 0 1) = a1
  generalize bad (fd T 1 5) = a2
  generalize bad (fd T 23 6) = a3
  generalize bad (fd T 29 7) = a4
  generalize bad (fd T 36 5) = a5
  generalize bad (fd T 41 1) = a6
  generalize bad (fd T 42 2) = a7
  generalize (txP (fd T 7 8) 15).2 = b1
  generalize (txP (fd T 15 8) 15).2 = b2
  generalize decide (T.getD 6 0 % 16 ≤ 3) = b3
  cases a1 <;> cases a2 <;> cases a3 <;> cases a4 <;> cases a5 <;> cases a6 <;> cases a7 <;> cases b1 <;> cases b2 <;> cases b3 <;> rfl
theorem cell_one_new' (w : World) (x : Int) (e : TypeId) : ∀ j u, [Value.int .i64 x][j]? = some u → (w.alloc (.cells #[.int .i64 x] e)).cell? ((⟨w.heap.size, 0, none⟩ : Addr).add j) = some u := by
  intro j u hu
  have ha : ((⟨w.heap.size, 0, none⟩ : Addr).add j) = ⟨w.heap.size, j, none⟩ := by unfold Addr.add; split <;> simp_all
  rw [ha, cell_of_row _ _ _ _ _ (0, 0) (heap_alloc_new _ _)]
  simpa using hu
theorem put_setCells {w : World} {g : Nat} {r0 : Rc} (r : Rc) (h : RcB w g r0) : RcB (w.setCells g 0 r.cells.toList) g r := by
  have := RcB.put r h
  simpa [World.setCells, Rc.cells] using this
theorem below_put {B : Nat} {a w : World} {q : Nat} (r : Rc) (h : Below B a w) (hq : B ≤ q) : Below B a (w.setCells q 0 r.cells.toList) := by
  simp only [World.setCells, Rc.cells]
  repeat' apply Below.setCell
  all_goals first | exact h | exact hq
theorem rc_info (r : Rc) : (Try.prog.info? 31).map (·.size) = some r.cells.size := by
  show _ = some 12
  kernel_rfl
theorem rc_one (r : Rc) : r.cells.all (·.oneCell') = true := by simp [Rc.cells, Value.oneCell']
theorem rc_there {w : World} {q : Nat} {r0 r5 : Rc} (hx : RcB w q r0) : w.there q 0 r5.cells.size := fun j hj => by
  have hj' : j < 12 := hj
  have h0 : r0.cells.size = 12 := rfl
  unfold RcB at hx
  rw [Nat.zero_add]
  simp [World.cell?, World.frozen?, hx]
  omega
theorem wrap_in8 {x : Int} (h0 : 0 ≤ x) (h1 : x ≤ 255) : IntKind.u8.wrap x = x := by
  unfold IntKind.wrap
  simp [IntKind.signed, IntKind.bits]
  omega
theorem wrap_in64 {x : Int} (h0 : 0 ≤ x) (h1 : x ≤ 255) : IntKind.i64.wrap x = x := by
  unfold IntKind.wrap
  simp [IntKind.signed, IntKind.bits]
  omega
/-- A pointer to a new record of zeros. -/
def PtrP (B : Nat) (v : Value) (w : World) : Prop := ∃ q, v = .pointer (some ⟨q, 0, none⟩) ∧ RcB w q rcZ ∧ B ≤ q
def YP.ptr (B : Nat) : YP := ⟨PtrP B, fun v w w' h hb => by
  obtain ⟨q, h1, h2, h3⟩ := h
  exact ⟨q, h1, h2.below hb (heap_lt h2), h3⟩⟩
def rdT (B bk off c g cp : Nat) (x6 : Int) (r : Rc) : List YP := match r with
  | ⟨s0, s1, s2, sa, sb, s5, s6, s7, s8, b9, s10, b11⟩ => [.val (.slice (some ⟨g, 0, none⟩) 7 cp), .val (.pointer (some ⟨g, 0, none⟩)), .val (.int .i64 s0), .val (.slice (some ⟨g, 0, none⟩) 7 cp), .val (.pointer (some ⟨g, 1, none⟩)), .val (.int .i64 s1), .val (.slice (some ⟨bk, off, none⟩) 45 c), .val (.pointer (some ⟨bk, off + 6, none⟩)), .val (.int .u8 x6), .val (.int .u8 s2), .val (.int .i64 s2), .val (.string sa), .val (.string sb), .val (.slice (some ⟨g, 0, none⟩) 7 cp), .val (.pointer (some ⟨g, 2, none⟩)), .val (.int .i64 s5), .val (.slice (some ⟨g, 0, none⟩) 7 cp), .val (.pointer (some ⟨g, 3, none⟩)), .val (.int .i64 s6), .val (.slice (some ⟨g, 0, none⟩) 7 cp), .val (.pointer (some ⟨g, 4, none⟩)), .val (.int .i64 s7), .val (.slice (some ⟨g, 0, none⟩) 7 cp), .val (.pointer (some ⟨g, 5, none⟩)), .val (.int .i64 s8), .val (.slice (some ⟨g, 0, none⟩) 7 cp), .val (.pointer (some ⟨g, 6, none⟩)), .val (.int .i64 s10), .val (.slice (some ⟨bk, off, none⟩) 45 c), .val (.pointer (some ⟨bk, off + 6, none⟩)), .val (.int .u8 x6), .val (.int .u8 (x6 % 2)), .val (.bool b9), .val (.slice (some ⟨bk, off, none⟩) 45 c), .val (.pointer (some ⟨bk, off + 6, none⟩)), .val (.int .u8 x6), .val (.int .u8 (x6 % 16)), .val (.bool b11), .val (.agg #[.int .i64 s0, .int .i64 s1, .int .i64 s2, .string sa, .string sb, .int .i64 s5, .int .i64 s6, .int .i64 s7, .int .i64 s8, .bool b9, .int .i64 s10, .bool b11]), .ptr B]
set_option maxRecDepth 100000 in
set_option maxHeartbeats 16000000 in
theorem refDecode_any {w : World} {A : Option Addr} {n c : Nat} {l : List Int} (h : Byt w A n c l) (hn : n ≤ 1000) :
    Calls Try.prog 17 #[.slice A n c] w (DecOut l w) := by
  obtain ⟨i0, hi0, hz0, hz1, hz2⟩ := info_parts intInfo
  have hlen := h.len
  have hni : (n : Int) ≤ 1000 := by omega
  obtain ⟨W1, hW1, hb1, hx1, hs1⟩ := rec_world w rcZ
  obtain ⟨W2, hW2, hb2, hx2, hs2⟩ := rec_world W1 rcZ
  have hx0 := hx1.below hb2 (by omega)
  have hbw : Below w.heap.size w W2 := hb1.trans (hb2.mono hb1.size)
  have HX := Lib.hid hx0; have HN := Lib.hid hx2; have HL0 := Lib.hid hbw
  have HS1 := Lib.hid hs1; have HS2 := Lib.hid hs2
  obtain ⟨c0, c1, c2, c3, c4, c5, c6, c7, c8, c9, c10, c11⟩ := hx0.cells
  obtain ⟨k0, k1, k2, k3, k4, k5, k6, k7, k8, k9, k10, k11⟩ := hx2.cells
  have hfr := hx0.fr
  simp only [Rc.cells, rcZ] at hW1 hW2
  simp only [rcZ] at c0 c1 c2 c3 c4 c5 c6 c7 c8 c9 c10 c11 k0 k1 k2 k3 k4 k5 k6 k7 k8 k9 k10 k11
  clear hb1 hx1 hs1 hb2 hx2 hs2 hx0 hbw
  by_cases s1 : n < 45
  · have d1 : decide ((n : Int) < 45) = true := decide_eq_true (by omega)
    have HD : Hid (decP l = (rcZ, 2)) := Lib.hid (by unfold decP; rw [if_pos (by omega)])
    clear h hlen s1
    go_enter Try.func17, Try.ntmps17
    go_wp2_with fail
    refine bodyPost_ret (v := .tuple #[.agg rcZ.cells, .int .i64 2]) ?_ rfl (decOut_of HD.out rfl ?_)
    · exact results_cell2 (p := 2) (u := 3) rfl _ _ w.heap.size 31 rcZ.cells (0, 0) _ rfl (RcB.put rcZ HX.out) Try.underlying31 rfl rfl
    · repeat' apply Below.setCell
      all_goals first | exact HL0.out | exact Nat.le_refl _
  · have d1 : decide ((n : Int) < 45) = false := decide_eq_false (by omega)
    by_cases s2 : 45 < n
    · have d2 : decide (45 < (n : Int)) = true := decide_eq_true (by omega)
      have HD : Hid (decP l = (rcZ, 3)) := Lib.hid (by unfold decP; rw [if_neg (by omega), if_pos (by omega)])
      clear h hlen s1 s2
      go_enter Try.func17, Try.ntmps17
      go_wp2_with fail
      refine bodyPost_ret (v := .tuple #[.agg rcZ.cells, .int .i64 3]) ?_ rfl (decOut_of HD.out rfl ?_)
      · exact results_cell2 (p := 2) (u := 3) rfl _ _ w.heap.size 31 rcZ.cells (0, 0) _ rfl (RcB.put rcZ HX.out) Try.underlying31 rfl rfl
      · repeat' apply Below.setCell
        all_goals first | exact HL0.out | exact Nat.le_refl _
    · have d2 : decide (45 < (n : Int)) = false := decide_eq_false (by omega)
      obtain rfl : n = 45 := by omega
      obtain ⟨bk, off, x, rfl, hx44, hcx, hbl⟩ := h.at (k := 44) (by omega)
      obtain ⟨x6, hx6⟩ : ∃ x, l[6]? = some x := ⟨_, List.getElem?_eq_getElem (by omega)⟩
      have hcx6 : w.cell? ⟨bk, off + 6, none⟩ = some (.int .u8 x6) := by
        obtain ⟨b', o', x', e1, e2, e3, -⟩ := h.at (k := 6) (by omega)
        injection e1 with e1
        injection e1 with e4 e5 e6
        subst e4 e5
        rw [hx6] at e2
        injection e2 with e2
        subst e2
        exact e3
      have hr6 := h.ran x6 (List.mem_of_getElem? hx6)
      obtain ⟨r60, r61⟩ := hr6
      have hcap := h.cap
      have hmax := h.max
      unfold maxLen at hmax
      obtain ⟨T, hT⟩ : ∃ T, l.take 44 = T := ⟨_, rfl⟩
      have HYL := Lib.hid h
      have HYT := Lib.hid (fun W (hb : Below w.heap.size w W) => byt_take (h.below hb) 44 (by omega))
      rw [hT] at HYT
      have hgx : l.getD 44 0 = x := by rw [List.getD_eq_getElem?_getD, hx44]; rfl
      have hg6 : T.getD 6 0 = x6 := by rw [← hT, List.getD_eq_getElem?_getD, List.getElem?_take_of_lt (by omega), hx6]; rfl
      have HDP : Hid (decP l = if x ≠ smL T then (rcZ, 4) else if rdW T = true then (rcZ, 1) else if chkR (rdR T) ≠ 0 then (rcZ, chkR (rdR T)) else (rdR T, 0)) := Lib.hid (by
        unfold decP
        rw [if_neg (by omega), if_neg (by omega), hgx, hT])
      have hcx' := (HL0.out.cell (p := ⟨bk, off + 44, none⟩) hbl).trans hcx
      have r44 := cell_regrown hcx'
      obtain ⟨sm, hsm⟩ : ∃ sm, smL T = sm := ⟨_, rfl⟩
      have ESM : Hid (∀ W, Below W2.heap.size W2 W → Calls Try.prog 29 #[.slice (some ⟨bk, off, none⟩) 44 c] W fun e w' => e = .returned (.int .u8 sm) ∧ Below W.heap.size W w') := Lib.hid (fun W hb => (refSum_any _ 44 c T W (HYT.out W (HL0.out.trans (hb.mono HL0.out.size)))).mono fun e w' hh => by
        obtain ⟨h1, rfl⟩ := hh
        rw [hsm] at h1
        exact ⟨h1, Below.refl _ _⟩)
      have HFD : Hid (∀ a s, a + s ≤ 44 → fd l a s = fd T a s) := Lib.hid (fun a s ha => by rw [← hT]; exact (fd_take ha).symm)
      have HFS : Hid (∀ W, Below w.heap.size w W → ∀ a s, a + s ≤ 44 → Byt W (some ⟨bk, off + a, none⟩) s (c - a) (fd T a s)) := Lib.hid (fun W hb a s ha => by
        rw [← hT, fd_take ha]
        exact byt_take (byt_drop (h.below hb) a (by omega)) s (by omega))
      rw [hsm] at HDP
      have h44 : (44 : Int) ≤ (c : Int) := by omega
      have HC6 := Lib.hid (fun W (hb : Below w.heap.size w W) => (hb.cell (p := ⟨bk, off + 6, none⟩) (cell_block_lt hcx6)).trans hcx6)
      have HG6 := Lib.hid hg6
      clear h hlen s1 s2 hx44 hcx hT hgx hsm hx6 hcx6 hg6
      have hcc : (44 : Int) < (c : Int) := by omega
      by_cases hck : x = sm
      · have hq : (sm == x) = true := by simp [hck]
        have hq2 : (sm != x) = false := by simp [hck]
        have HC := Lib.hid hck
        clear hck
        go_enter Try.func17, Try.ntmps17
        go_wp2_with fail
        refine wp_region_quiet_below (by kernel_rfl) (by kernel_rfl) ?_
        iterate 7 (go_big_quiet_step (with_reducible exact Calls.regrown_of (ESM.out _ (below_regrown _ _ _))))
        refine wpQuiet_nil ?_
        intro Wq hw'
        have hbq : Below W2.heap.size W2 Wq := by
          obtain ⟨⟨dq, osq⟩, hw''⟩ := hw'
          rw [hw'']; exact below_regrown _ _ _
        clear hw'
        have HXQ := Lib.hid (HX.out.below hbq (by have := HS1.out; have := HS2.out; omega))
        have HNQ := Lib.hid (HN.out.below hbq (by have := HS2.out; omega))
        have HBQ := Lib.hid (HL0.out.trans (hbq.mono HL0.out.size))
        clear hbq r44 hcx' c0 c1 c2 c3 c4 c5 c6 c7 c8 c9 c10 c11 hfr k0 k1 k2 k3 k4 k5 k6 k7 k8 k9 k10 k11
        obtain ⟨W5, hW5⟩ : ∃ W, (Wq.alloc (.cells #[.int .i64 0, .int .i64 1, .int .i64 23, .int .i64 29, .int .i64 36, .int .i64 41, .int .i64 42] 3)).alloc (.cells #[.int .i64 1, .int .i64 6, .int .i64 29, .int .i64 36, .int .i64 41, .int .i64 42, .int .i64 44] 3) = W := ⟨_, rfl⟩
        have hb5 : Below Wq.heap.size Wq W5 := by rw [← hW5]; exact (below_lit Wq _).alloc (by simp) _
        have HFR : Hid (W5.heap[Wq.heap.size]? = some (.cells #[.int .i64 0, .int .i64 1, .int .i64 23, .int .i64 29, .int .i64 36, .int .i64 41, .int .i64 42] 3 (0, 0))) := Lib.hid (by rw [← hW5, heap_alloc_old _ _ (by simp)]; exact heap_alloc_new Wq _)
        have HTO : Hid (W5.heap[Wq.heap.size + 1]? = some (.cells #[.int .i64 1, .int .i64 6, .int .i64 29, .int .i64 36, .int .i64 41, .int .i64 42, .int .i64 44] 3 (0, 0))) := Lib.hid (by
          rw [← hW5]
          have hh := heap_alloc_new (Wq.alloc (.cells #[.int .i64 0, .int .i64 1, .int .i64 23, .int .i64 29, .int .i64 36, .int .i64 41, .int .i64 42] 3)) (.cells #[.int .i64 1, .int .i64 6, .int .i64 29, .int .i64 36, .int .i64 41, .int .i64 42, .int .i64 44] 3)
          rw [World.size_alloc] at hh
          exact hh)
        have HB5 := Lib.hid (HBQ.out.trans (hb5.mono HBQ.out.size))
        have HX5 := Lib.hid (HXQ.out.below hb5 (heap_lt HXQ.out))
        have HN5 := Lib.hid (HNQ.out.below hb5 (heap_lt HNQ.out))
        have HQ5 : Hid (Wq.heap.size + 1 < W5.heap.size) := Lib.hid (by rw [← hW5]; simp)
        clear hb5
        have h6q := HC6.out W5 HB5.out
        go_wp2_with fail
        have HV0 : Hid (W5.ownsRow W5.heap.size 3 1 (.slice none 0 0) 0 (xsk T 0)) := Lib.hid (World.ownsRow_nil _ _ _ _)
        have hok0 : decide (x6 % 16 ≤ 3) = (decide (x6 % 16 ≤ 3) && okk T 0) := by rw [show okk T 0 = true from rfl, Bool.and_true]
        have HOK0 := Lib.hid hok0
        clear hok0 h6q
        go_loopw [7, 8, 9] (fun vv bv iv wr => ∃ (k : Nat) (v : Value), v = vv ∧ bv = .bool (decide (x6 % 16 ≤ 3) && okk T k) ∧ iv = .int .i64 k ∧ k ≤ 7 ∧ Hid (wr.ownsRow W5.heap.size 3 1 v k (xsk T k)) ∧ Hid (Below W5.heap.size W5 wr)) (fun _ _ iv _ => 7 - (intOf iv).toNat)
        case atStart => exact ⟨0, _, rfl, by rw [← HOK0.out], rfl, by omega, HV0, Lib.hid (Below.refl _ _)⟩
        case round =>
          obtain ⟨k, v, rfl, rfl, rfl, hk, HV, HB⟩ := hrel
          clear hW5
          have HBW := Lib.hid (HB5.out.trans (HB.out.mono HB5.out.size))
          have HF : Hid (wr.heap[Wq.heap.size]? = some (.cells #[.int .i64 0, .int .i64 1, .int .i64 23, .int .i64 29, .int .i64 36, .int .i64 41, .int .i64 42] 3 (0, 0))) := Lib.hid ((HB.out.block _ (by have := HQ5.out; omega)).trans HFR.out)
          have HT : Hid (wr.heap[Wq.heap.size + 1]? = some (.cells #[.int .i64 1, .int .i64 6, .int .i64 29, .int .i64 36, .int .i64 41, .int .i64 42, .int .i64 44] 3 (0, 0))) := Lib.hid ((HB.out.block _ HQ5.out).trans HTO.out)
          by_cases hlt : k < 7
          · have hlt' : (k : Int) < 7 := by omega
            have hk0 : (0 : Int) ≤ (k : Int) := by omega
            have x1 := fr_cell HF.out hlt
            have x2 := to_cell HT.out hlt
            obtain ⟨g1, g2, g3⟩ := fr_to hlt
            have HFK : Hid (fdk T k = fd T (frL.getD k 0) (toL.getD k 0 - frL.getD k 0)) := Lib.hid rfl
            obtain ⟨fa, ha⟩ : ∃ a, frL.getD k 0 = a := ⟨_, rfl⟩
            obtain ⟨ft, ht⟩ : ∃ t, toL.getD k 0 = t := ⟨_, rfl⟩
            rw [ha] at g1 g3 x1 HFK
            rw [ht] at g1 g2 g3 x2 HFK
            clear ha ht
            have y1 := cell_regrown x1
            have y2 := cell_regrown x2
            obtain ⟨⟨z, y⟩, hzy⟩ : ∃ z, deL (fd T fa (ft - fa)) = z := ⟨_, rfl⟩
            have HZ : Hid (deL (fdk T k) = (z, y)) := Lib.hid (by rw [HFK.out]; exact hzy)
            have EDC : Hid (∀ W, Below wr.heap.size wr W → Calls Try.prog 12 #[.slice (some ⟨bk, off + fa, none⟩) (ft - fa) (c - fa)] W fun e w' => e = .returned (.tuple #[.int .i64 z, .int .i64 y]) ∧ Below W.heap.size W w') := Lib.hid (fun W hb => (refDecimal_any _ _ _ _ W (HFS.out W (HBW.out.trans (hb.mono HBW.out.size)) fa (ft - fa) (by omega))).mono fun e w' hh => by
              rw [hzy] at hh
              exact hh)
            clear hzy
            have b1 : (fa : Int) ≤ (ft : Int) := by omega
            have b2 : (ft : Int) ≤ (c : Int) := by omega
            have b3 : ¬ c = fa := by omega
            have b4 : (0 : Int) ≤ (fa : Int) := by omega
            obtain ⟨bb, hbb⟩ : ∃ bb, (decide (x6 % 16 ≤ 3) && okk T k) = bb := ⟨_, rfl⟩
            have HNX : Hid ((decide (x6 % 16 ≤ 3) && okk T (k + 1)) = (bb && decide (y = 0))) := Lib.hid (by
              rw [okk_succ, ← Bool.and_assoc, hbb]
              unfold bad
              rw [HZ.out, Bool.not_not])
            rw [hbb]
            clear hbb g1 g2 g3 x1 x2
            cases bb
            · go_wp2_with fail
              refine wp_region_quiet_below (by kernel_rfl) (by kernel_rfl) ?_
              iterate 16 (go_big_quiet_step (with_reducible exact Calls.regrown_of (EDC.out _ (below_regrown _ _ _))))
              refine wpQuiet_nil ?_
              intro Wr hw'
              have hbr : Below wr.heap.size wr Wr := by
                obtain ⟨⟨dq, osq⟩, hw''⟩ := hw'
                rw [hw'']; exact below_regrown _ _ _
              clear hw' y1 y2
              have HBR := Lib.hid hbr
              have HVR := Lib.hid (HV.out.kept (row := none) (gr_below hbr) (by cases v.ownBlock <;> simp))
              clear hbr
              go_wp2_with (at_builtin; refine wpList_append_own _ rfl (.tmp 61) (.tmp 63) 55 rfl W5.heap.size 3 i0 (.int .i64 0) 1 8 Try.underlying55 hi0 hz0 hz1 hz2 rfl (by decide) v k (xsk T k) rfl (HVR.out.alloc _) ⟨Wr.heap.size, 0, none⟩ 1 1 [.int .i64 z] rfl rfl (cell_one_new' _ _ _) (by simp [Value.oneCell']) (by unfold maxLen; omega) (by omega) (by have := HB.out.size; have := HBR.out.size; simp; omega) ?_; intro v4 w4 z1 z2 _; have HV4 : Hid (w4.ownsRow W5.heap.size 3 1 v4 (k + 1) (xsk T (k + 1))) := Lib.hid (by rw [xsk_succ, HZ.out]; exact z1); have HB4 : Hid (Below W5.heap.size W5 w4) := Lib.hid (((HB.out.trans (HBR.out.mono HB.out.size)).alloc (Nat.le_trans HB.out.size HBR.out.size) _).grown z2 (by have := HB.out.size; have := HBR.out.size; simp; omega) (fun q hq => (HVR.out.lt q hq).1)); clear z1 z2)
              go_roundw
              case rel => exact ⟨k + 1, _, rfl, (by rw [HNX.out] <;> rfl), by go_num, by omega, HV4, HB4⟩
              case measure => simp [intOf]; omega
            · by_cases hy : y = 0
              · subst hy
                go_wp2_with fail
                refine wp_region_quiet_below (by kernel_rfl) (by kernel_rfl) ?_
                iterate 16 (go_big_quiet_step (with_reducible exact Calls.regrown_of (EDC.out _ (below_regrown _ _ _))))
                refine wpQuiet_nil ?_
                intro Wr hw'
                have hbr : Below wr.heap.size wr Wr := by
                  obtain ⟨⟨dq, osq⟩, hw''⟩ := hw'
                  rw [hw'']; exact below_regrown _ _ _
                clear hw' y1 y2
                have HBR := Lib.hid hbr
                have HVR := Lib.hid (HV.out.kept (row := none) (gr_below hbr) (by cases v.ownBlock <;> simp))
                clear hbr
                go_wp2_with (at_builtin; refine wpList_append_own _ rfl (.tmp 61) (.tmp 63) 55 rfl W5.heap.size 3 i0 (.int .i64 0) 1 8 Try.underlying55 hi0 hz0 hz1 hz2 rfl (by decide) v k (xsk T k) rfl (HVR.out.alloc _) ⟨Wr.heap.size, 0, none⟩ 1 1 [.int .i64 z] rfl rfl (cell_one_new' _ _ _) (by simp [Value.oneCell']) (by unfold maxLen; omega) (by omega) (by have := HB.out.size; have := HBR.out.size; simp; omega) ?_; intro v4 w4 z1 z2 _; have HV4 : Hid (w4.ownsRow W5.heap.size 3 1 v4 (k + 1) (xsk T (k + 1))) := Lib.hid (by rw [xsk_succ, HZ.out]; exact z1); have HB4 : Hid (Below W5.heap.size W5 w4) := Lib.hid (((HB.out.trans (HBR.out.mono HB.out.size)).alloc (Nat.le_trans HB.out.size HBR.out.size) _).grown z2 (by have := HB.out.size; have := HBR.out.size; simp; omega) (fun q hq => (HVR.out.lt q hq).1)); clear z1 z2)
                go_roundw
                case rel => exact ⟨k + 1, _, rfl, (by rw [HNX.out] <;> rfl), by go_num, by omega, HV4, HB4⟩
                case measure => simp [intOf]; omega
              · have hy1 : (y == 0) = false := by simp [hy]
                have HNY : Hid ((decide (x6 % 16 ≤ 3) && okk T (k + 1)) = false) := Lib.hid (by rw [HNX.out, decide_eq_false hy]; rfl)
                clear hy
                go_wp2_with fail
                refine wp_region_quiet_below (by kernel_rfl) (by kernel_rfl) ?_
                iterate 16 (go_big_quiet_step (with_reducible exact Calls.regrown_of (EDC.out _ (below_regrown _ _ _))))
                refine wpQuiet_nil ?_
                intro Wr hw'
                have hbr : Below wr.heap.size wr Wr := by
                  obtain ⟨⟨dq, osq⟩, hw''⟩ := hw'
                  rw [hw'']; exact below_regrown _ _ _
                clear hw' y1 y2
                have HBR := Lib.hid hbr
                have HVR := Lib.hid (HV.out.kept (row := none) (gr_below hbr) (by cases v.ownBlock <;> simp))
                clear hbr
                go_wp2_with (at_builtin; refine wpList_append_own _ rfl (.tmp 61) (.tmp 63) 55 rfl W5.heap.size 3 i0 (.int .i64 0) 1 8 Try.underlying55 hi0 hz0 hz1 hz2 rfl (by decide) v k (xsk T k) rfl (HVR.out.alloc _) ⟨Wr.heap.size, 0, none⟩ 1 1 [.int .i64 z] rfl rfl (cell_one_new' _ _ _) (by simp [Value.oneCell']) (by unfold maxLen; omega) (by omega) (by have := HB.out.size; have := HBR.out.size; simp; omega) ?_; intro v4 w4 z1 z2 _; have HV4 : Hid (w4.ownsRow W5.heap.size 3 1 v4 (k + 1) (xsk T (k + 1))) := Lib.hid (by rw [xsk_succ, HZ.out]; exact z1); have HB4 : Hid (Below W5.heap.size W5 w4) := Lib.hid (((HB.out.trans (HBR.out.mono HB.out.size)).alloc (Nat.le_trans HB.out.size HBR.out.size) _).grown z2 (by have := HB.out.size; have := HBR.out.size; simp; omega) (fun q hq => (HVR.out.lt q hq).1)); clear z1 z2)
                go_roundw
                case rel => exact ⟨k + 1, _, rfl, (by rw [HNY.out]), by go_num, by omega, HV4, HB4⟩
                case measure => simp [intOf]; omega
          · obtain rfl : k = 7 := by omega
            clear hlt hk
            obtain ⟨g, cp, rfl, hgb, hgl⟩ := HV.out.form (by omega)
            obtain ⟨rr, hrr⟩ : ∃ rr, rdR T = rr := ⟨_, rfl⟩
            obtain ⟨s0, s1, s2, sa, sb, s5, s6, s7, s8, b9, s10, b11⟩ := rr
            have HRR := Lib.hid hrr
            have HQ : Hid (∀ W, Below wr.heap.size wr W → W.cell? ⟨g, 0, none⟩ = some (.int .i64 s0) ∧ W.cell? ⟨g, 1, none⟩ = some (.int .i64 s1) ∧ W.cell? ⟨g, 2, none⟩ = some (.int .i64 s5) ∧ W.cell? ⟨g, 3, none⟩ = some (.int .i64 s6) ∧ W.cell? ⟨g, 4, none⟩ = some (.int .i64 s7) ∧ W.cell? ⟨g, 5, none⟩ = some (.int .i64 s8) ∧ W.cell? ⟨g, 6, none⟩ = some (.int .i64 s10)) := Lib.hid (fun W hb => by
              have key : ∀ j, j < 7 → W.cell? ⟨g, j, none⟩ = some (.int .i64 (deL (fdk T j)).1) := fun j hj => by
                rw [hb.cell (p := ⟨g, j, none⟩) hgl, HV.out.cellAt j (by omega)]
                exact xsk_at T hj
              have e0 : (deL (fdk T 0)).1 = s0 := congrArg Rc.s0 hrr
              have e1 : (deL (fdk T 1)).1 = s1 := congrArg Rc.s1 hrr
              have e2 : (deL (fdk T 2)).1 = s5 := congrArg Rc.s5 hrr
              have e3 : (deL (fdk T 3)).1 = s6 := congrArg Rc.s6 hrr
              have e4 : (deL (fdk T 4)).1 = s7 := congrArg Rc.s7 hrr
              have e5 : (deL (fdk T 5)).1 = s8 := congrArg Rc.s8 hrr
              have e6 : (deL (fdk T 6)).1 = s10 := congrArg Rc.s10 hrr
              exact ⟨e0 ▸ key 0 (by omega), e1 ▸ key 1 (by omega), e2 ▸ key 2 (by omega), e3 ▸ key 3 (by omega), e4 ▸ key 4 (by omega), e5 ▸ key 5 (by omega), e6 ▸ key 6 (by omega)⟩)
            have e2 : x6 / 16 = s2 := by rw [← HG6.out]; exact congrArg Rc.s2 hrr
            have e9 : decide (x6 % 2 = 1) = b9 := by rw [← HG6.out]; exact congrArg Rc.b9 hrr
            have e11 : decide (x6 / 2 % 2 = 1) = b11 := by rw [← HG6.out]; exact congrArg Rc.b11 hrr
            have esa : strOfNums (txP (fd T 7 8) 15).1 = sa := congrArg Rc.sa hrr
            have esb : strOfNums (txP (fd T 15 8) 15).1 = sb := congrArg Rc.sb hrr
            have HSA : Hid (sa.size ≤ maxLen) := Lib.hid (esa ▸ Nat.le_trans txt_size (by unfold maxLen; decide))
            have HSB : Hid (sb.size ≤ maxLen) := Lib.hid (esb ▸ Nat.le_trans txt_size (by unfold maxLen; decide))
            rw [hrr] at HDP
            have HE2 := Lib.hid e2; have HE9 := Lib.hid e9; have HE11 := Lib.hid e11
            have HY1 := Lib.hid (fun W hb => text_any (HFS.out W hb 7 8 (by omega)) rfl)
            have HY2 := Lib.hid (fun W hb => text_any (HFS.out W hb 15 8 (by omega)) rfl)
            have HWQ : Hid ((!rdW T) = (((decide (x6 % 16 ≤ 3) && okk T 7) && (txP (fd T 7 8) 15).2) && (txP (fd T 15 8) 15).2)) := Lib.hid (by rw [← HG6.out]; exact rdW_eq T)
            unfold TxtOut at HY1 HY2
            rw [esa] at HY1
            rw [esb] at HY2
            obtain ⟨f1, hf1⟩ : ∃ f1, (txP (fd T 7 8) 15).2 = f1 := ⟨_, rfl⟩
            obtain ⟨f2, hf2⟩ : ∃ f2, (txP (fd T 15 8) 15).2 = f2 := ⟨_, rfl⟩
            rw [hf1] at HY1 HWQ
            rw [hf2] at HY2 HWQ
            obtain ⟨t1, ht1⟩ : ∃ t1, (if f1 = true then sa else ByteArray.empty) = t1 := ⟨_, rfl⟩
            obtain ⟨t2, ht2⟩ : ∃ t2, (if f2 = true then sb else ByteArray.empty) = t2 := ⟨_, rfl⟩
            rw [ht1] at HY1
            rw [ht2] at HY2
            have HT1 : Hid (∀ W, Below w.heap.size w W → Calls Try.prog 31 #[.slice (some ⟨bk, off + 7, none⟩) 8 (c - 7)] W fun e w' => e = .returned (.tuple #[.string t1, .bool f1]) ∧ Below W.heap.size W w') := Lib.hid HY1.out
            have HT2 : Hid (∀ W, Below w.heap.size w W → Calls Try.prog 31 #[.slice (some ⟨bk, off + 15, none⟩) 8 (c - 15)] W fun e w' => e = .returned (.tuple #[.string t2, .bool f2]) ∧ Below W.heap.size W w') := Lib.hid HY2.out
            have b1 : (15 : Int) ≤ (c : Int) := by omega
            have b2 : (23 : Int) ≤ (c : Int) := by omega
            have b3 : ¬ c = 7 := by omega
            have b4 : ¬ c = 15 := by omega
            obtain ⟨bb, hbb⟩ : ∃ bb, (decide (x6 % 16 ≤ 3) && okk T 7) = bb := ⟨_, rfl⟩
            rw [hbb] at HWQ
            rw [hbb]
            have HBB := Lib.hid hbb; have HT1E := Lib.hid ht1; have HT2E := Lib.hid ht2
            clear hbb hf1 hf2 ht1 ht2 HY1 HY2 e2 e9 e11 esa esb hrr
            cases bb
            · have HD : Hid (decP l = (rcZ, 1)) := Lib.hid (by rw [HDP.out, if_neg (fun h => h HC.out), if_pos (by have := HWQ.out; simpa using this)])
              go_wp2_with (first
                | (go_at_call 31; (with_reducible refine (HT1.out _ HBW.out).mono ?_); rintro e w1 ⟨rfl, hb⟩; have HB1 := Lib.hid hb; have HBW1 := Lib.hid (HBW.out.trans (hb.mono HBW.out.size)); clear hb)
                | (go_at_call 31; (with_reducible refine (HT2.out _ HBW1.out).mono ?_); rintro e w2 ⟨rfl, hb⟩; have HB2 := Lib.hid (HB1.out.trans (hb.mono HB1.out.size)); have HBW2 := Lib.hid (HBW1.out.trans (hb.mono HBW1.out.size)); have HX2 := Lib.hid ((HX5.out.below HB.out (heap_lt HX5.out)).below HB2.out (heap_lt (HX5.out.below HB.out (heap_lt HX5.out)))); have HN2 := Lib.hid ((HN5.out.below HB.out (heap_lt HN5.out)).below HB2.out (heap_lt (HN5.out.below HB.out (heap_lt HN5.out)))); obtain ⟨c0, c1, c2, c3, c4, c5, c6, c7, c8, c9, c10, c11⟩ := HX2.out.cells; obtain ⟨k0, k1, k2, k3, k4, k5, k6, k7, k8, k9, k10, k11⟩ := HN2.out.cells; have hfr := HX2.out.fr; simp only [rcZ] at c0 c1 c2 c3 c4 c5 c6 c7 c8 c9 c10 c11 k0 k1 k2 k3 k4 k5 k6 k7 k8 k9 k10 k11; clear hb))
              refine bodyPost_ret (v := .tuple #[.agg rcZ.cells, .int .i64 1]) ?_ rfl (decOut_of HD.out rfl ?_)
              · exact results_cell2 (p := 2) (u := 3) rfl _ _ w.heap.size 31 rcZ.cells (0, 0) _ rfl (RcB.put rcZ HX2.out) Try.underlying31 rfl rfl
              · repeat' apply Below.setCell
                all_goals first | exact HBW2.out | exact Nat.le_refl _
            · cases f1
              · have HD : Hid (decP l = (rcZ, 1)) := Lib.hid (by rw [HDP.out, if_neg (fun h => h HC.out), if_pos (by have := HWQ.out; simpa using this)])
                go_wp2_with (first
                  | (go_at_call 31; (with_reducible refine (HT1.out _ HBW.out).mono ?_); rintro e w1 ⟨rfl, hb⟩; have HB1 := Lib.hid hb; have HBW1 := Lib.hid (HBW.out.trans (hb.mono HBW.out.size)); clear hb)
                  | (go_at_call 31; (with_reducible refine (HT2.out _ HBW1.out).mono ?_); rintro e w2 ⟨rfl, hb⟩; have HB2 := Lib.hid (HB1.out.trans (hb.mono HB1.out.size)); have HBW2 := Lib.hid (HBW1.out.trans (hb.mono HBW1.out.size)); have HX2 := Lib.hid ((HX5.out.below HB.out (heap_lt HX5.out)).below HB2.out (heap_lt (HX5.out.below HB.out (heap_lt HX5.out)))); have HN2 := Lib.hid ((HN5.out.below HB.out (heap_lt HN5.out)).below HB2.out (heap_lt (HN5.out.below HB.out (heap_lt HN5.out)))); obtain ⟨c0, c1, c2, c3, c4, c5, c6, c7, c8, c9, c10, c11⟩ := HX2.out.cells; obtain ⟨k0, k1, k2, k3, k4, k5, k6, k7, k8, k9, k10, k11⟩ := HN2.out.cells; have hfr := HX2.out.fr; simp only [rcZ] at c0 c1 c2 c3 c4 c5 c6 c7 c8 c9 c10 c11 k0 k1 k2 k3 k4 k5 k6 k7 k8 k9 k10 k11; clear hb))
                refine bodyPost_ret (v := .tuple #[.agg rcZ.cells, .int .i64 1]) ?_ rfl (decOut_of HD.out rfl ?_)
                · exact results_cell2 (p := 2) (u := 3) rfl _ _ w.heap.size 31 rcZ.cells (0, 0) _ rfl (RcB.put rcZ HX2.out) Try.underlying31 rfl rfl
                · repeat' apply Below.setCell
                  all_goals first | exact HBW2.out | exact Nat.le_refl _
              · cases f2
                · have HD : Hid (decP l = (rcZ, 1)) := Lib.hid (by rw [HDP.out, if_neg (fun h => h HC.out), if_pos (by have := HWQ.out; simpa using this)])
                  go_wp2_with (first
                    | (go_at_call 31; (with_reducible refine (HT1.out _ HBW.out).mono ?_); rintro e w1 ⟨rfl, hb⟩; have HB1 := Lib.hid hb; have HBW1 := Lib.hid (HBW.out.trans (hb.mono HBW.out.size)); clear hb)
                    | (go_at_call 31; (with_reducible refine (HT2.out _ HBW1.out).mono ?_); rintro e w2 ⟨rfl, hb⟩; have HB2 := Lib.hid (HB1.out.trans (hb.mono HB1.out.size)); have HBW2 := Lib.hid (HBW1.out.trans (hb.mono HBW1.out.size)); have HX2 := Lib.hid ((HX5.out.below HB.out (heap_lt HX5.out)).below HB2.out (heap_lt (HX5.out.below HB.out (heap_lt HX5.out)))); have HN2 := Lib.hid ((HN5.out.below HB.out (heap_lt HN5.out)).below HB2.out (heap_lt (HN5.out.below HB.out (heap_lt HN5.out)))); obtain ⟨c0, c1, c2, c3, c4, c5, c6, c7, c8, c9, c10, c11⟩ := HX2.out.cells; obtain ⟨k0, k1, k2, k3, k4, k5, k6, k7, k8, k9, k10, k11⟩ := HN2.out.cells; have hfr := HX2.out.fr; simp only [rcZ] at c0 c1 c2 c3 c4 c5 c6 c7 c8 c9 c10 c11 k0 k1 k2 k3 k4 k5 k6 k7 k8 k9 k10 k11; clear hb))
                  refine bodyPost_ret (v := .tuple #[.agg rcZ.cells, .int .i64 1]) ?_ rfl (decOut_of HD.out rfl ?_)
                  · exact results_cell2 (p := 2) (u := 3) rfl _ _ w.heap.size 31 rcZ.cells (0, 0) _ rfl (RcB.put rcZ HX2.out) Try.underlying31 rfl rfl
                  · repeat' apply Below.setCell
                    all_goals first | exact HBW2.out | exact Nat.le_refl _
                · obtain rfl : sa = t1 := by have := HT1E.out; simpa using this
                  obtain rfl : sb = t2 := by have := HT2E.out; simpa using this
                  have h3 : x6 % 16 ≤ 3 := by
                    have := HBB.out
                    rw [Bool.and_eq_true] at this
                    exact of_decide_eq_true this.1
                  have HD4 : Hid (decP l = if chkR ⟨s0, s1, s2, sa, sb, s5, s6, s7, s8, b9, s10, b11⟩ ≠ 0 then (rcZ, chkR ⟨s0, s1, s2, sa, sb, s5, s6, s7, s8, b9, s10, b11⟩) else (⟨s0, s1, s2, sa, sb, s5, s6, s7, s8, b9, s10, b11⟩, 0)) := Lib.hid (by rw [HDP.out, if_neg (fun h => h HC.out), if_neg (by have := HWQ.out; simpa using this)])
                  have hb9 : (x6 % 2 == 1) = b9 := by rw [← HE9.out]; rfl
                  have hb11 : decide (2 ≤ x6 % 16) = b11 := by rw [← HE11.out]; exact decide_eq_decide.2 (by omega)
                  have he2 := HE2.out
                  have HCK := Lib.hid (refErr_any ⟨s0, s1, s2, sa, sb, s5, s6, s7, s8, b9, s10, b11⟩ HSA.out HSB.out)
                  obtain ⟨xx, hxx⟩ : ∃ xx, chkR ⟨s0, s1, s2, sa, sb, s5, s6, s7, s8, b9, s10, b11⟩ = xx := ⟨_, rfl⟩
                  rw [hxx] at HCK HD4
                  simp only [Rc.cells] at HCK
                  clear hxx HT1E HT2E h3 HRR
                  go_upto_region 22 with (first
                    | (go_at_call 31; (with_reducible refine (HT1.out _ HBW.out).mono ?_); rintro e w1 ⟨rfl, hb⟩; have HB1 := Lib.hid hb; have HBW1 := Lib.hid (HBW.out.trans (hb.mono HBW.out.size)); clear hb)
                    | (go_at_call 31; (with_reducible refine (HT2.out _ HBW1.out).mono ?_); rintro e w2 ⟨rfl, hb⟩; have HB2 := Lib.hid (HB1.out.trans (hb.mono HB1.out.size)); have HBW2 := Lib.hid (HBW1.out.trans (hb.mono HBW1.out.size)); clear hb))
                  go_cut [16] from 18 to 138 (fun s16 wy => ∃ g5, s16 = .pointer (some ⟨g5, 0, none⟩) ∧ RcB wy g5 ⟨s0, s1, s2, sa, sb, s5, s6, s7, s8, b9, s10, b11⟩ ∧ w2.heap.size ≤ g5 ∧ Below w2.heap.size w2 wy)
                  case first =>
                    rename_i hJ hK
                    refine wp_region_stable (I := fun w' => Below w2.heap.size w2 w') (Y := fun i v w' => ((rdT w2.heap.size bk off c g cp x6 ⟨s0, s1, s2, sa, sb, s5, s6, s7, s8, b9, s10, b11⟩).getD i .any).holds v w') (n := 40) (ol := _) (by kernel_rfl) (fit_of (ol := _) (by kernel_rfl) rfl rfl) (show 139 ≤ 1000000 by decide) ?qI ?qS ?qE
                    case qI => exact (Below.refl _ _).drew
                    case qS =>
                      intro i o hi ho listed a wx hA hd
                      have hI := hA.inv
                      have t0 : a.tmps[0]?.getD undef = .slice (some ⟨bk, off, none⟩) 45 c := by rw [← Array.getD_eq_getD_getElem?]; exact hA.same 0 (by kernel_rfl)
                      have t7 : a.tmps[7]?.getD undef = .slice (some ⟨g, 0, none⟩) 7 cp := by rw [← Array.getD_eq_getD_getElem?]; exact hA.same 7 (by kernel_rfl)
                      have t12 : a.tmps[12]?.getD undef = .string sa := by rw [← Array.getD_eq_getD_getElem?]; exact hA.same 12 (by kernel_rfl)
                      have t14 : a.tmps[14]?.getD undef = .string sb := by rw [← Array.getD_eq_getD_getElem?]; exact hA.same 14 (by kernel_rfl)
                      obtain ⟨q0, q1, q2, q3, q4, q5, q6⟩ := HQ.out _ (HB2.out.trans (hI.mono HB2.out.size))
                      have h6 := HC6.out _ (HBW2.out.trans (hI.mono HBW2.out.size))
                      have hcs : i = 0 ∨ i = 1 ∨ i = 2 ∨ i = 3 ∨ i = 4 ∨ i = 5 ∨ i = 6 ∨ i = 7 ∨ i = 8 ∨ i = 9 ∨ i = 10 ∨ i = 11 ∨ i = 12 ∨ i = 13 ∨ i = 14 ∨ i = 15 ∨ i = 16 ∨ i = 17 ∨ i = 18 ∨ i = 19 ∨ i = 20 ∨ i = 21 ∨ i = 22 ∨ i = 23 ∨ i = 24 ∨ i = 25 ∨ i = 26 ∨ i = 27 ∨ i = 28 ∨ i = 29 ∨ i = 30 ∨ i = 31 ∨ i = 32 ∨ i = 33 ∨ i = 34 ∨ i = 35 ∨ i = 36 ∨ i = 37 ∨ i = 38 ∨ i = 39 := by omega
                      rcases hcs with rfl | rfl | rfl | rfl | rfl | rfl | rfl | rfl | rfl | rfl | rfl | rfl | rfl | rfl | rfl | rfl | rfl | rfl | rfl | rfl | rfl | rfl | rfl | rfl | rfl | rfl | rfl | rfl | rfl | rfl | rfl | rfl | rfl | rfl | rfl | rfl | rfl | rfl | rfl | rfl
                      · obtain rfl := Option.some.inj ho
                        exact step_val (v := .slice (some ⟨g, 0, none⟩) 7 cp) (by simp [go_sem, t7]) hI rfl
                      · obtain rfl := Option.some.inj ho
                        have d0 : a.tmps[93]?.getD undef = .slice (some ⟨g, 0, none⟩) 7 cp := by rw [← Array.getD_eq_getD_getElem?]; exact hd { on := 0, ground := .data } (by simp) rfl
                        exact step_val (v := .pointer (some ⟨g, 0, none⟩)) (by simp [go_sem, d0]) hI rfl
                      · obtain rfl := Option.some.inj ho
                        have d1 : a.tmps[94]?.getD undef = .pointer (some ⟨g, 0, none⟩) := by rw [← Array.getD_eq_getD_getElem?]; exact hd { on := 1, ground := .data } (by simp) rfl
                        exact step_val (v := .int .i64 s0) (by simp [go_sem, d1, q0]) hI rfl
                      · obtain rfl := Option.some.inj ho
                        exact step_val (v := .slice (some ⟨g, 0, none⟩) 7 cp) (by simp [go_sem, t7]) hI rfl
                      · obtain rfl := Option.some.inj ho
                        have d3 : a.tmps[96]?.getD undef = .slice (some ⟨g, 0, none⟩) 7 cp := by rw [← Array.getD_eq_getD_getElem?]; exact hd { on := 3, ground := .data } (by simp) rfl
                        exact step_val (v := .pointer (some ⟨g, 1, none⟩)) (by simp [go_sem, d3]) hI rfl
                      · obtain rfl := Option.some.inj ho
                        have d4 : a.tmps[97]?.getD undef = .pointer (some ⟨g, 1, none⟩) := by rw [← Array.getD_eq_getD_getElem?]; exact hd { on := 4, ground := .data } (by simp) rfl
                        exact step_val (v := .int .i64 s1) (by simp [go_sem, d4, q1]) hI rfl
                      · obtain rfl := Option.some.inj ho
                        exact step_val (v := .slice (some ⟨bk, off, none⟩) 45 c) (by simp [go_sem, t0]) hI rfl
                      · obtain rfl := Option.some.inj ho
                        have d6 : a.tmps[99]?.getD undef = .slice (some ⟨bk, off, none⟩) 45 c := by rw [← Array.getD_eq_getD_getElem?]; exact hd { on := 6, ground := .data } (by simp) rfl
                        exact step_val (v := .pointer (some ⟨bk, off + 6, none⟩)) (by simp [go_sem, d6]) hI rfl
                      · obtain rfl := Option.some.inj ho
                        have d7 : a.tmps[100]?.getD undef = .pointer (some ⟨bk, off + 6, none⟩) := by rw [← Array.getD_eq_getD_getElem?]; exact hd { on := 7, ground := .data } (by simp) rfl
                        exact step_val (v := .int .u8 x6) (by simp [go_sem, d7, h6]) hI rfl
                      · obtain rfl := Option.some.inj ho
                        have d8 : a.tmps[101]?.getD undef = .int .u8 x6 := by rw [← Array.getD_eq_getD_getElem?]; exact hd { on := 8, ground := .data } (by simp) rfl
                        exact step_val (v := .int .u8 s2) (by simp [go_sem, d8]; rw [Int.tdiv_eq_ediv_of_nonneg r60, he2]; exact wrap_in8 (by omega) (by omega)) hI rfl
                      · obtain rfl := Option.some.inj ho
                        have d9 : a.tmps[102]?.getD undef = .int .u8 s2 := by rw [← Array.getD_eq_getD_getElem?]; exact hd { on := 9, ground := .data } (by simp) rfl
                        exact step_val (v := .int .i64 s2) (by simp [go_sem, d9]; exact wrap_in64 (by omega) (by omega)) hI rfl
                      · obtain rfl := Option.some.inj ho
                        exact step_val (v := .string sa) (by simp [go_sem, t12]) hI rfl
                      · obtain rfl := Option.some.inj ho
                        exact step_val (v := .string sb) (by simp [go_sem, t14]) hI rfl
                      · obtain rfl := Option.some.inj ho
                        exact step_val (v := .slice (some ⟨g, 0, none⟩) 7 cp) (by simp [go_sem, t7]) hI rfl
                      · obtain rfl := Option.some.inj ho
                        have d13 : a.tmps[106]?.getD undef = .slice (some ⟨g, 0, none⟩) 7 cp := by rw [← Array.getD_eq_getD_getElem?]; exact hd { on := 13, ground := .data } (by simp) rfl
                        exact step_val (v := .pointer (some ⟨g, 2, none⟩)) (by simp [go_sem, d13]) hI rfl
                      · obtain rfl := Option.some.inj ho
                        have d14 : a.tmps[107]?.getD undef = .pointer (some ⟨g, 2, none⟩) := by rw [← Array.getD_eq_getD_getElem?]; exact hd { on := 14, ground := .data } (by simp) rfl
                        exact step_val (v := .int .i64 s5) (by simp [go_sem, d14, q2]) hI rfl
                      · obtain rfl := Option.some.inj ho
                        exact step_val (v := .slice (some ⟨g, 0, none⟩) 7 cp) (by simp [go_sem, t7]) hI rfl
                      · obtain rfl := Option.some.inj ho
                        have d16 : a.tmps[109]?.getD undef = .slice (some ⟨g, 0, none⟩) 7 cp := by rw [← Array.getD_eq_getD_getElem?]; exact hd { on := 16, ground := .data } (by simp) rfl
                        exact step_val (v := .pointer (some ⟨g, 3, none⟩)) (by simp [go_sem, d16]) hI rfl
                      · obtain rfl := Option.some.inj ho
                        have d17 : a.tmps[110]?.getD undef = .pointer (some ⟨g, 3, none⟩) := by rw [← Array.getD_eq_getD_getElem?]; exact hd { on := 17, ground := .data } (by simp) rfl
                        exact step_val (v := .int .i64 s6) (by simp [go_sem, d17, q3]) hI rfl
                      · obtain rfl := Option.some.inj ho
                        exact step_val (v := .slice (some ⟨g, 0, none⟩) 7 cp) (by simp [go_sem, t7]) hI rfl
                      · obtain rfl := Option.some.inj ho
                        have d19 : a.tmps[112]?.getD undef = .slice (some ⟨g, 0, none⟩) 7 cp := by rw [← Array.getD_eq_getD_getElem?]; exact hd { on := 19, ground := .data } (by simp) rfl
                        exact step_val (v := .pointer (some ⟨g, 4, none⟩)) (by simp [go_sem, d19]) hI rfl
                      · obtain rfl := Option.some.inj ho
                        have d20 : a.tmps[113]?.getD undef = .pointer (some ⟨g, 4, none⟩) := by rw [← Array.getD_eq_getD_getElem?]; exact hd { on := 20, ground := .data } (by simp) rfl
                        exact step_val (v := .int .i64 s7) (by simp [go_sem, d20, q4]) hI rfl
                      · obtain rfl := Option.some.inj ho
                        exact step_val (v := .slice (some ⟨g, 0, none⟩) 7 cp) (by simp [go_sem, t7]) hI rfl
                      · obtain rfl := Option.some.inj ho
                        have d22 : a.tmps[115]?.getD undef = .slice (some ⟨g, 0, none⟩) 7 cp := by rw [← Array.getD_eq_getD_getElem?]; exact hd { on := 22, ground := .data } (by simp) rfl
                        exact step_val (v := .pointer (some ⟨g, 5, none⟩)) (by simp [go_sem, d22]) hI rfl
                      · obtain rfl := Option.some.inj ho
                        have d23 : a.tmps[116]?.getD undef = .pointer (some ⟨g, 5, none⟩) := by rw [← Array.getD_eq_getD_getElem?]; exact hd { on := 23, ground := .data } (by simp) rfl
                        exact step_val (v := .int .i64 s8) (by simp [go_sem, d23, q5]) hI rfl
                      · obtain rfl := Option.some.inj ho
                        exact step_val (v := .slice (some ⟨g, 0, none⟩) 7 cp) (by simp [go_sem, t7]) hI rfl
                      · obtain rfl := Option.some.inj ho
                        have d25 : a.tmps[118]?.getD undef = .slice (some ⟨g, 0, none⟩) 7 cp := by rw [← Array.getD_eq_getD_getElem?]; exact hd { on := 25, ground := .data } (by simp) rfl
                        exact step_val (v := .pointer (some ⟨g, 6, none⟩)) (by simp [go_sem, d25]) hI rfl
                      · obtain rfl := Option.some.inj ho
                        have d26 : a.tmps[119]?.getD undef = .pointer (some ⟨g, 6, none⟩) := by rw [← Array.getD_eq_getD_getElem?]; exact hd { on := 26, ground := .data } (by simp) rfl
                        exact step_val (v := .int .i64 s10) (by simp [go_sem, d26, q6]) hI rfl
                      · obtain rfl := Option.some.inj ho
                        exact step_val (v := .slice (some ⟨bk, off, none⟩) 45 c) (by simp [go_sem, t0]) hI rfl
                      · obtain rfl := Option.some.inj ho
                        have d28 : a.tmps[121]?.getD undef = .slice (some ⟨bk, off, none⟩) 45 c := by rw [← Array.getD_eq_getD_getElem?]; exact hd { on := 28, ground := .data } (by simp) rfl
                        exact step_val (v := .pointer (some ⟨bk, off + 6, none⟩)) (by simp [go_sem, d28]) hI rfl
                      · obtain rfl := Option.some.inj ho
                        have d29 : a.tmps[122]?.getD undef = .pointer (some ⟨bk, off + 6, none⟩) := by rw [← Array.getD_eq_getD_getElem?]; exact hd { on := 29, ground := .data } (by simp) rfl
                        exact step_val (v := .int .u8 x6) (by simp [go_sem, d29, h6]) hI rfl
                      · obtain rfl := Option.some.inj ho
                        have d30 : a.tmps[123]?.getD undef = .int .u8 x6 := by rw [← Array.getD_eq_getD_getElem?]; exact hd { on := 30, ground := .data } (by simp) rfl
                        exact step_val (v := .int .u8 (x6 % 2)) (by simp [go_sem, d30]; exact Int.tmod_eq_emod_of_nonneg r60) hI rfl
                      · obtain rfl := Option.some.inj ho
                        have d31 : a.tmps[124]?.getD undef = .int .u8 (x6 % 2) := by rw [← Array.getD_eq_getD_getElem?]; exact hd { on := 31, ground := .data } (by simp) rfl
                        exact step_val (v := .bool b9) (by simp [go_sem, d31]; exact hb9) hI rfl
                      · obtain rfl := Option.some.inj ho
                        exact step_val (v := .slice (some ⟨bk, off, none⟩) 45 c) (by simp [go_sem, t0]) hI rfl
                      · obtain rfl := Option.some.inj ho
                        have d33 : a.tmps[126]?.getD undef = .slice (some ⟨bk, off, none⟩) 45 c := by rw [← Array.getD_eq_getD_getElem?]; exact hd { on := 33, ground := .data } (by simp) rfl
                        exact step_val (v := .pointer (some ⟨bk, off + 6, none⟩)) (by simp [go_sem, d33]) hI rfl
                      · obtain rfl := Option.some.inj ho
                        have d34 : a.tmps[127]?.getD undef = .pointer (some ⟨bk, off + 6, none⟩) := by rw [← Array.getD_eq_getD_getElem?]; exact hd { on := 34, ground := .data } (by simp) rfl
                        exact step_val (v := .int .u8 x6) (by simp [go_sem, d34, h6]) hI rfl
                      · obtain rfl := Option.some.inj ho
                        have d35 : a.tmps[128]?.getD undef = .int .u8 x6 := by rw [← Array.getD_eq_getD_getElem?]; exact hd { on := 35, ground := .data } (by simp) rfl
                        exact step_val (v := .int .u8 (x6 % 16)) (by simp [go_sem, d35]; exact Int.tmod_eq_emod_of_nonneg r60) hI rfl
                      · obtain rfl := Option.some.inj ho
                        have d36 : a.tmps[129]?.getD undef = .int .u8 (x6 % 16) := by rw [← Array.getD_eq_getD_getElem?]; exact hd { on := 36, ground := .data } (by simp) rfl
                        exact step_val (v := .bool b11) (by simp [go_sem, d36]; exact hb11) hI rfl
                      · obtain rfl := Option.some.inj ho
                        have d2 : a.tmps[95]?.getD undef = .int .i64 s0 := by rw [← Array.getD_eq_getD_getElem?]; exact hd { on := 2, ground := .data } (by simp) rfl
                        have d5 : a.tmps[98]?.getD undef = .int .i64 s1 := by rw [← Array.getD_eq_getD_getElem?]; exact hd { on := 5, ground := .data } (by simp) rfl
                        have d10 : a.tmps[103]?.getD undef = .int .i64 s2 := by rw [← Array.getD_eq_getD_getElem?]; exact hd { on := 10, ground := .data } (by simp) rfl
                        have d11 : a.tmps[104]?.getD undef = .string sa := by rw [← Array.getD_eq_getD_getElem?]; exact hd { on := 11, ground := .data } (by simp) rfl
                        have d12 : a.tmps[105]?.getD undef = .string sb := by rw [← Array.getD_eq_getD_getElem?]; exact hd { on := 12, ground := .data } (by simp) rfl
                        have d15 : a.tmps[108]?.getD undef = .int .i64 s5 := by rw [← Array.getD_eq_getD_getElem?]; exact hd { on := 15, ground := .data } (by simp) rfl
                        have d18 : a.tmps[111]?.getD undef = .int .i64 s6 := by rw [← Array.getD_eq_getD_getElem?]; exact hd { on := 18, ground := .data } (by simp) rfl
                        have d21 : a.tmps[114]?.getD undef = .int .i64 s7 := by rw [← Array.getD_eq_getD_getElem?]; exact hd { on := 21, ground := .data } (by simp) rfl
                        have d24 : a.tmps[117]?.getD undef = .int .i64 s8 := by rw [← Array.getD_eq_getD_getElem?]; exact hd { on := 24, ground := .data } (by simp) rfl
                        have d27 : a.tmps[120]?.getD undef = .int .i64 s10 := by rw [← Array.getD_eq_getD_getElem?]; exact hd { on := 27, ground := .data } (by simp) rfl
                        have d32 : a.tmps[125]?.getD undef = .bool b9 := by rw [← Array.getD_eq_getD_getElem?]; exact hd { on := 32, ground := .data } (by simp) rfl
                        have d37 : a.tmps[130]?.getD undef = .bool b11 := by rw [← Array.getD_eq_getD_getElem?]; exact hd { on := 37, ground := .data } (by simp) rfl
                        exact step_val (v := .agg #[.int .i64 s0, .int .i64 s1, .int .i64 s2, .string sa, .string sb, .int .i64 s5, .int .i64 s6, .int .i64 s7, .int .i64 s8, .bool b9, .int .i64 s10, .bool b11]) (by simp [go_sem, d2, d5, d10, d11, d12, d15, d18, d21, d24, d27, d32, d37]) hI rfl
                      · obtain rfl := Option.some.inj ho
                        exact yp_new (T := rdT w2.heap.size bk off c g cp x6 ⟨s0, s1, s2, sa, sb, s5, s6, s7, s8, b9, s10, b11⟩) (k := .ptr w2.heap.size) (w' := wx.alloc (.cells rcZ.cells 31)) (v := .pointer (some ⟨wx.heap.size, 0, none⟩)) rfl (by simp [go_sem, Rc.cells, rcZ]) hI (below_lit _ _) ⟨_, rfl, heap_alloc_new _ _, hI.size⟩
                    case qE =>
                      intro listed a wx hA hY
                      have hI := hA.inv
                      have hbv : a.eval (.tmp 131) = .agg (Rc.cells ⟨s0, s1, s2, sa, sb, s5, s6, s7, s8, b9, s10, b11⟩) := hY 38 (by decide)
                      have hpt : PtrP w2.heap.size (a.eval (.tmp 16)) wx := hY 39 (by decide)
                      obtain ⟨q, hpv, hqR, hqB⟩ := hpt
                      have hdf : a.defers = [] := hA.defers
                      have hl : a.tmps.size = 139 := hA.size
                      have fs0 := hA.same 0 (by kernel_rfl)
                      have fs1 := hA.same 1 (by kernel_rfl)
                      have fs2 := hA.same 2 (by kernel_rfl)
                      have fs3 := hA.same 3 (by kernel_rfl)
                      have fs4 := hA.same 4 (by kernel_rfl)
                      have fs5 := hA.same 5 (by kernel_rfl)
                      have fs6 := hA.same 6 (by kernel_rfl)
                      have fs7 := hA.same 7 (by kernel_rfl)
                      have fs8 := hA.same 8 (by kernel_rfl)
                      have fs9 := hA.same 9 (by kernel_rfl)
                      have fs10 := hA.same 10 (by kernel_rfl)
                      have fs11 := hA.same 11 (by kernel_rfl)
                      have fs12 := hA.same 12 (by kernel_rfl)
                      have fs13 := hA.same 13 (by kernel_rfl)
                      have fs14 := hA.same 14 (by kernel_rfl)
                      have fs15 := hA.same 15 (by kernel_rfl)
                      have fs17 := hA.same 17 (by kernel_rfl)
                      have fs16 : a.tmps.getD 16 undef = .pointer (some ⟨q, 0, none⟩) := hpv
                      refine wp_store_mid 31 (.tmp 16) (.tmp 131) rfl q 0 (Rc.cells ⟨s0, s1, s2, sa, sb, s5, s6, s7, s8, b9, s10, b11⟩) hpv hbv (rc_there hqR) (rc_info _) (rc_one _) ?_
                      have hqW := Lib.hid (put_setCells ⟨s0, s1, s2, sa, sb, s5, s6, s7, s8, b9, s10, b11⟩ hqR)
                      have hbW := Lib.hid (below_put ⟨s0, s1, s2, sa, sb, s5, s6, s7, s8, b9, s10, b11⟩ hI hqB)
                      clear hA hY hpv hbv
                      generalize wx.setCells q 0 (Rc.cells ⟨s0, s1, s2, sa, sb, s5, s6, s7, s8, b9, s10, b11⟩).toList = wy at hqW hbW ⊢
                      obtain ⟨⟨l⟩, df⟩ := a
                      simp only at hdf
                      subst hdf
                      replace hl : l.length = 138 + 1 := hl
                      obtain ⟨x0, l0, e0, h0⟩ := lit_succ (n := 138) hl
                      subst e0
                      obtain ⟨x1, l1, e1, h1⟩ := lit_succ (n := 137) h0
                      subst e1
                      obtain ⟨x2, l2, e2, h2⟩ := lit_succ (n := 136) h1
                      subst e2
                      obtain ⟨x3, l3, e3, h3⟩ := lit_succ (n := 135) h2
                      subst e3
                      obtain ⟨x4, l4, e4, h4⟩ := lit_succ (n := 134) h3
                      subst e4
                      obtain ⟨x5, l5, e5, h5⟩ := lit_succ (n := 133) h4
                      subst e5
                      obtain ⟨x6, l6, e6, h6⟩ := lit_succ (n := 132) h5
                      subst e6
                      obtain ⟨x7, l7, e7, h7⟩ := lit_succ (n := 131) h6
                      subst e7
                      obtain ⟨x8, l8, e8, h8⟩ := lit_succ (n := 130) h7
                      subst e8
                      obtain ⟨x9, l9, e9, h9⟩ := lit_succ (n := 129) h8
                      subst e9
                      obtain ⟨x10, l10, e10, h10⟩ := lit_succ (n := 128) h9
                      subst e10
                      obtain ⟨x11, l11, e11, h11⟩ := lit_succ (n := 127) h10
                      subst e11
                      obtain ⟨x12, l12, e12, h12⟩ := lit_succ (n := 126) h11
                      subst e12
                      obtain ⟨x13, l13, e13, h13⟩ := lit_succ (n := 125) h12
                      subst e13
                      obtain ⟨x14, l14, e14, h14⟩ := lit_succ (n := 124) h13
                      subst e14
                      obtain ⟨x15, l15, e15, h15⟩ := lit_succ (n := 123) h14
                      subst e15
                      obtain ⟨x16, l16, e16, h16⟩ := lit_succ (n := 122) h15
                      subst e16
                      obtain ⟨x17, l17, e17, h17⟩ := lit_succ (n := 121) h16
                      subst e17
                      obtain ⟨x18, l18, e18, h18⟩ := lit_succ (n := 120) h17
                      subst e18
                      obtain ⟨x19, l19, e19, h19⟩ := lit_succ (n := 119) h18
                      subst e19
                      obtain ⟨x20, l20, e20, h20⟩ := lit_succ (n := 118) h19
                      subst e20
                      obtain ⟨x21, l21, e21, h21⟩ := lit_succ (n := 117) h20
                      subst e21
                      obtain ⟨x22, l22, e22, h22⟩ := lit_succ (n := 116) h21
                      subst e22
                      obtain ⟨x23, l23, e23, h23⟩ := lit_succ (n := 115) h22
                      subst e23
                      obtain ⟨x24, l24, e24, h24⟩ := lit_succ (n := 114) h23
                      subst e24
                      obtain ⟨x25, l25, e25, h25⟩ := lit_succ (n := 113) h24
                      subst e25
                      obtain ⟨x26, l26, e26, h26⟩ := lit_succ (n := 112) h25
                      subst e26
                      obtain ⟨x27, l27, e27, h27⟩ := lit_succ (n := 111) h26
                      subst e27
                      obtain ⟨x28, l28, e28, h28⟩ := lit_succ (n := 110) h27
                      subst e28
                      obtain ⟨x29, l29, e29, h29⟩ := lit_succ (n := 109) h28
                      subst e29
                      obtain ⟨x30, l30, e30, h30⟩ := lit_succ (n := 108) h29
                      subst e30
                      obtain ⟨x31, l31, e31, h31⟩ := lit_succ (n := 107) h30
                      subst e31
                      obtain ⟨x32, l32, e32, h32⟩ := lit_succ (n := 106) h31
                      subst e32
                      obtain ⟨x33, l33, e33, h33⟩ := lit_succ (n := 105) h32
                      subst e33
                      obtain ⟨x34, l34, e34, h34⟩ := lit_succ (n := 104) h33
                      subst e34
                      obtain ⟨x35, l35, e35, h35⟩ := lit_succ (n := 103) h34
                      subst e35
                      obtain ⟨x36, l36, e36, h36⟩ := lit_succ (n := 102) h35
                      subst e36
                      obtain ⟨x37, l37, e37, h37⟩ := lit_succ (n := 101) h36
                      subst e37
                      obtain ⟨x38, l38, e38, h38⟩ := lit_succ (n := 100) h37
                      subst e38
                      obtain ⟨x39, l39, e39, h39⟩ := lit_succ (n := 99) h38
                      subst e39
                      obtain ⟨x40, l40, e40, h40⟩ := lit_succ (n := 98) h39
                      subst e40
                      obtain ⟨x41, l41, e41, h41⟩ := lit_succ (n := 97) h40
                      subst e41
                      obtain ⟨x42, l42, e42, h42⟩ := lit_succ (n := 96) h41
                      subst e42
                      obtain ⟨x43, l43, e43, h43⟩ := lit_succ (n := 95) h42
                      subst e43
                      obtain ⟨x44, l44, e44, h44⟩ := lit_succ (n := 94) h43
                      subst e44
                      obtain ⟨x45, l45, e45, h45⟩ := lit_succ (n := 93) h44
                      subst e45
                      obtain ⟨x46, l46, e46, h46⟩ := lit_succ (n := 92) h45
                      subst e46
                      obtain ⟨x47, l47, e47, h47⟩ := lit_succ (n := 91) h46
                      subst e47
                      obtain ⟨x48, l48, e48, h48⟩ := lit_succ (n := 90) h47
                      subst e48
                      obtain ⟨x49, l49, e49, h49⟩ := lit_succ (n := 89) h48
                      subst e49
                      obtain ⟨x50, l50, e50, h50⟩ := lit_succ (n := 88) h49
                      subst e50
                      obtain ⟨x51, l51, e51, h51⟩ := lit_succ (n := 87) h50
                      subst e51
                      obtain ⟨x52, l52, e52, h52⟩ := lit_succ (n := 86) h51
                      subst e52
                      obtain ⟨x53, l53, e53, h53⟩ := lit_succ (n := 85) h52
                      subst e53
                      obtain ⟨x54, l54, e54, h54⟩ := lit_succ (n := 84) h53
                      subst e54
                      obtain ⟨x55, l55, e55, h55⟩ := lit_succ (n := 83) h54
                      subst e55
                      obtain ⟨x56, l56, e56, h56⟩ := lit_succ (n := 82) h55
                      subst e56
                      obtain ⟨x57, l57, e57, h57⟩ := lit_succ (n := 81) h56
                      subst e57
                      obtain ⟨x58, l58, e58, h58⟩ := lit_succ (n := 80) h57
                      subst e58
                      obtain ⟨x59, l59, e59, h59⟩ := lit_succ (n := 79) h58
                      subst e59
                      obtain ⟨x60, l60, e60, h60⟩ := lit_succ (n := 78) h59
                      subst e60
                      obtain ⟨x61, l61, e61, h61⟩ := lit_succ (n := 77) h60
                      subst e61
                      obtain ⟨x62, l62, e62, h62⟩ := lit_succ (n := 76) h61
                      subst e62
                      obtain ⟨x63, l63, e63, h63⟩ := lit_succ (n := 75) h62
                      subst e63
                      obtain ⟨x64, l64, e64, h64⟩ := lit_succ (n := 74) h63
                      subst e64
                      obtain ⟨x65, l65, e65, h65⟩ := lit_succ (n := 73) h64
                      subst e65
                      obtain ⟨x66, l66, e66, h66⟩ := lit_succ (n := 72) h65
                      subst e66
                      obtain ⟨x67, l67, e67, h67⟩ := lit_succ (n := 71) h66
                      subst e67
                      obtain ⟨x68, l68, e68, h68⟩ := lit_succ (n := 70) h67
                      subst e68
                      obtain ⟨x69, l69, e69, h69⟩ := lit_succ (n := 69) h68
                      subst e69
                      obtain ⟨x70, l70, e70, h70⟩ := lit_succ (n := 68) h69
                      subst e70
                      obtain ⟨x71, l71, e71, h71⟩ := lit_succ (n := 67) h70
                      subst e71
                      obtain ⟨x72, l72, e72, h72⟩ := lit_succ (n := 66) h71
                      subst e72
                      obtain ⟨x73, l73, e73, h73⟩ := lit_succ (n := 65) h72
                      subst e73
                      obtain ⟨x74, l74, e74, h74⟩ := lit_succ (n := 64) h73
                      subst e74
                      obtain ⟨x75, l75, e75, h75⟩ := lit_succ (n := 63) h74
                      subst e75
                      obtain ⟨x76, l76, e76, h76⟩ := lit_succ (n := 62) h75
                      subst e76
                      obtain ⟨x77, l77, e77, h77⟩ := lit_succ (n := 61) h76
                      subst e77
                      obtain ⟨x78, l78, e78, h78⟩ := lit_succ (n := 60) h77
                      subst e78
                      obtain ⟨x79, l79, e79, h79⟩ := lit_succ (n := 59) h78
                      subst e79
                      obtain ⟨x80, l80, e80, h80⟩ := lit_succ (n := 58) h79
                      subst e80
                      obtain ⟨x81, l81, e81, h81⟩ := lit_succ (n := 57) h80
                      subst e81
                      obtain ⟨x82, l82, e82, h82⟩ := lit_succ (n := 56) h81
                      subst e82
                      obtain ⟨x83, l83, e83, h83⟩ := lit_succ (n := 55) h82
                      subst e83
                      obtain ⟨x84, l84, e84, h84⟩ := lit_succ (n := 54) h83
                      subst e84
                      obtain ⟨x85, l85, e85, h85⟩ := lit_succ (n := 53) h84
                      subst e85
                      obtain ⟨x86, l86, e86, h86⟩ := lit_succ (n := 52) h85
                      subst e86
                      obtain ⟨x87, l87, e87, h87⟩ := lit_succ (n := 51) h86
                      subst e87
                      obtain ⟨x88, l88, e88, h88⟩ := lit_succ (n := 50) h87
                      subst e88
                      obtain ⟨x89, l89, e89, h89⟩ := lit_succ (n := 49) h88
                      subst e89
                      obtain ⟨x90, l90, e90, h90⟩ := lit_succ (n := 48) h89
                      subst e90
                      obtain ⟨x91, l91, e91, h91⟩ := lit_succ (n := 47) h90
                      subst e91
                      obtain ⟨x92, l92, e92, h92⟩ := lit_succ (n := 46) h91
                      subst e92
                      obtain ⟨x93, l93, e93, h93⟩ := lit_succ (n := 45) h92
                      subst e93
                      obtain ⟨x94, l94, e94, h94⟩ := lit_succ (n := 44) h93
                      subst e94
                      obtain ⟨x95, l95, e95, h95⟩ := lit_succ (n := 43) h94
                      subst e95
                      obtain ⟨x96, l96, e96, h96⟩ := lit_succ (n := 42) h95
                      subst e96
                      obtain ⟨x97, l97, e97, h97⟩ := lit_succ (n := 41) h96
                      subst e97
                      obtain ⟨x98, l98, e98, h98⟩ := lit_succ (n := 40) h97
                      subst e98
                      obtain ⟨x99, l99, e99, h99⟩ := lit_succ (n := 39) h98
                      subst e99
                      obtain ⟨x100, l100, e100, h100⟩ := lit_succ (n := 38) h99
                      subst e100
                      obtain ⟨x101, l101, e101, h101⟩ := lit_succ (n := 37) h100
                      subst e101
                      obtain ⟨x102, l102, e102, h102⟩ := lit_succ (n := 36) h101
                      subst e102
                      obtain ⟨x103, l103, e103, h103⟩ := lit_succ (n := 35) h102
                      subst e103
                      obtain ⟨x104, l104, e104, h104⟩ := lit_succ (n := 34) h103
                      subst e104
                      obtain ⟨x105, l105, e105, h105⟩ := lit_succ (n := 33) h104
                      subst e105
                      obtain ⟨x106, l106, e106, h106⟩ := lit_succ (n := 32) h105
                      subst e106
                      obtain ⟨x107, l107, e107, h107⟩ := lit_succ (n := 31) h106
                      subst e107
                      obtain ⟨x108, l108, e108, h108⟩ := lit_succ (n := 30) h107
                      subst e108
                      obtain ⟨x109, l109, e109, h109⟩ := lit_succ (n := 29) h108
                      subst e109
                      obtain ⟨x110, l110, e110, h110⟩ := lit_succ (n := 28) h109
                      subst e110
                      obtain ⟨x111, l111, e111, h111⟩ := lit_succ (n := 27) h110
                      subst e111
                      obtain ⟨x112, l112, e112, h112⟩ := lit_succ (n := 26) h111
                      subst e112
                      obtain ⟨x113, l113, e113, h113⟩ := lit_succ (n := 25) h112
                      subst e113
                      obtain ⟨x114, l114, e114, h114⟩ := lit_succ (n := 24) h113
                      subst e114
                      obtain ⟨x115, l115, e115, h115⟩ := lit_succ (n := 23) h114
                      subst e115
                      obtain ⟨x116, l116, e116, h116⟩ := lit_succ (n := 22) h115
                      subst e116
                      obtain ⟨x117, l117, e117, h117⟩ := lit_succ (n := 21) h116
                      subst e117
                      obtain ⟨x118, l118, e118, h118⟩ := lit_succ (n := 20) h117
                      subst e118
                      obtain ⟨x119, l119, e119, h119⟩ := lit_succ (n := 19) h118
                      subst e119
                      obtain ⟨x120, l120, e120, h120⟩ := lit_succ (n := 18) h119
                      subst e120
                      obtain ⟨x121, l121, e121, h121⟩ := lit_succ (n := 17) h120
                      subst e121
                      obtain ⟨x122, l122, e122, h122⟩ := lit_succ (n := 16) h121
                      subst e122
                      obtain ⟨x123, l123, e123, h123⟩ := lit_succ (n := 15) h122
                      subst e123
                      obtain ⟨x124, l124, e124, h124⟩ := lit_succ (n := 14) h123
                      subst e124
                      obtain ⟨x125, l125, e125, h125⟩ := lit_succ (n := 13) h124
                      subst e125
                      obtain ⟨x126, l126, e126, h126⟩ := lit_succ (n := 12) h125
                      subst e126
                      obtain ⟨x127, l127, e127, h127⟩ := lit_succ (n := 11) h126
                      subst e127
                      obtain ⟨x128, l128, e128, h128⟩ := lit_succ (n := 10) h127
                      subst e128
                      obtain ⟨x129, l129, e129, h129⟩ := lit_succ (n := 9) h128
                      subst e129
                      obtain ⟨x130, l130, e130, h130⟩ := lit_succ (n := 8) h129
                      subst e130
                      obtain ⟨x131, l131, e131, h131⟩ := lit_succ (n := 7) h130
                      subst e131
                      obtain ⟨x132, l132, e132, h132⟩ := lit_succ (n := 6) h131
                      subst e132
                      obtain ⟨x133, l133, e133, h133⟩ := lit_succ (n := 5) h132
                      subst e133
                      obtain ⟨x134, l134, e134, h134⟩ := lit_succ (n := 4) h133
                      subst e134
                      obtain ⟨x135, l135, e135, h135⟩ := lit_succ (n := 3) h134
                      subst e135
                      obtain ⟨x136, l136, e136, h136⟩ := lit_succ (n := 2) h135
                      subst e136
                      obtain ⟨x137, l137, e137, h137⟩ := lit_succ (n := 1) h136
                      subst e137
                      obtain ⟨x138, l138, e138, h138⟩ := lit_succ (n := 0) h137
                      subst e138
                      obtain rfl := List.length_eq_zero_iff.1 h138
                      replace fs0 : x0 = .slice (some ⟨bk, off, none⟩) 45 c := fs0
                      replace fs1 : x1 = undef := fs1
                      replace fs2 : x2 = .pointer (some ⟨w.heap.size, 0, none⟩) := fs2
                      replace fs3 : x3 = .int .i64 0 := fs3
                      replace fs4 : x4 = .pointer (some ⟨W1.heap.size, 0, none⟩) := fs4
                      replace fs5 : x5 = .slice (some ⟨Wq.heap.size, 0, none⟩) 7 7 := fs5
                      replace fs6 : x6 = .slice (some ⟨Wq.heap.size + 1, 0, none⟩) 7 7 := fs6
                      replace fs7 : x7 = .slice (some ⟨g, 0, none⟩) 7 cp := fs7
                      replace fs8 : x8 = .bool true := fs8
                      replace fs9 : x9 = .int .i64 7 := fs9
                      replace fs10 : x10 = u10 := fs10
                      replace fs11 : x11 = u11 := fs11
                      replace fs12 : x12 = .string sa := fs12
                      replace fs13 : x13 = .bool true := fs13
                      replace fs14 : x14 = .string sb := fs14
                      replace fs15 : x15 = .bool true := fs15
                      replace fs17 : x17 = undef := fs17
                      replace fs16 : x16 = .pointer (some ⟨q, 0, none⟩) := fs16
                      subst fs0 fs1 fs2 fs3 fs4 fs5 fs6 fs7 fs8 fs9 fs10 fs11 fs12 fs13 fs14 fs15 fs17 fs16
                      refine hK { tmps := #[.slice (some ⟨bk, off, none⟩) 45 c, undef, .pointer (some ⟨w.heap.size, 0, none⟩), .int .i64 0, .pointer (some ⟨W1.heap.size, 0, none⟩), .slice (some ⟨Wq.heap.size, 0, none⟩) 7 7, .slice (some ⟨Wq.heap.size + 1, 0, none⟩) 7 7, .slice (some ⟨g, 0, none⟩) 7 cp, .bool true, .int .i64 7, _, _, .string sa, .bool true, .string sb, .bool true, .pointer (some ⟨q, 0, none⟩), undef, x18, x19, x20, x21, x22, x23, x24, x25, x26, x27, x28, x29, x30, x31, x32, x33, x34, x35, x36, x37, x38, x39, x40, x41, x42, x43, x44, x45, x46, x47, x48, x49, x50, x51, x52, x53, x54, x55, x56, x57, x58, x59, x60, x61, x62, x63, x64, x65, x66, x67, x68, x69, x70, x71, x72, x73, x74, x75, x76, x77, x78, x79, x80, x81, x82, x83, x84, x85, x86, x87, x88, x89, x90, x91, x92, x93, x94, x95, x96, x97, x98, x99, x100, x101, x102, x103, x104, x105, x106, x107, x108, x109, x110, x111, x112, x113, x114, x115, x116, x117, x118, x119, x120, x121, x122, x123, x124, x125, x126, x127, x128, x129, x130, x131, x132, x133, x134, x135, x136, x137, x138], defers := [] } _ ?_
                      go_meet
                      case rel => exact ⟨q, rfl, hqW.out, hqB, hbW.out⟩
                  case rest =>
                    obtain ⟨g5, rfl, hr5, hg5, hb5⟩ := hcut
                    obtain ⟨wy, hwy⟩ : ∃ wy, wy = wc := ⟨_, rfl⟩
                    subst hwy
                    have HR5 := Lib.hid hr5
                    have HXW := (HX5.out.below HB.out (heap_lt HX5.out)).below HB2.out (heap_lt (HX5.out.below HB.out (heap_lt HX5.out)))
                    have HNW := (HN5.out.below HB.out (heap_lt HN5.out)).below HB2.out (heap_lt (HN5.out.below HB.out (heap_lt HN5.out)))
                    have HXY := Lib.hid (HXW.below hb5 (heap_lt HXW))
                    have HNY := Lib.hid (HNW.below hb5 (heap_lt HNW))
                    have HBY := Lib.hid (HBW2.out.trans (hb5.mono HBW2.out.size))
                    clear hr5 hb5 hg5 HXW HNW
                    obtain ⟨m0, m1, m2, m3, m4, m5, m6, m7, m8, m9, m10, m11⟩ := HR5.out.cells
                    simp only at m0 m1 m2 m3 m4 m5 m6 m7 m8 m9 m10 m11
                    by_cases hx0 : xx = 0
                    · subst hx0
                      have HD : Hid (decP l = (⟨s0, s1, s2, sa, sb, s5, s6, s7, s8, b9, s10, b11⟩, 0)) := Lib.hid (by rw [HD4.out]; simp)
                      go_wp2_with (go_at_call 27; (with_reducible refine (HCK.out _).mono ?_); rintro e w3 ⟨rfl, hb⟩; have HX3 := Lib.hid (HXY.out.below hb (heap_lt HXY.out)); have HR3 := Lib.hid (HR5.out.below hb (heap_lt HR5.out)); have HB3 := Lib.hid (HBY.out.trans (hb.mono HBY.out.size)); clear m0 m1 m2 m3 m4 m5 m6 m7 m8 m9 m10 m11 hb; obtain ⟨m0, m1, m2, m3, m4, m5, m6, m7, m8, m9, m10, m11⟩ := HR3.out.cells; simp only at m0 m1 m2 m3 m4 m5 m6 m7 m8 m9 m10 m11; obtain ⟨c0, c1, c2, c3, c4, c5, c6, c7, c8, c9, c10, c11⟩ := HX3.out.cells; have hfr := HX3.out.fr; simp only [rcZ] at c0 c1 c2 c3 c4 c5 c6 c7 c8 c9 c10 c11)
                      refine bodyPost_ret (v := .tuple #[.agg (Rc.cells ⟨s0, s1, s2, sa, sb, s5, s6, s7, s8, b9, s10, b11⟩), .int .i64 0]) ?_ rfl (decOut_of HD.out rfl ?_)
                      · exact results_cell2 (p := 2) (u := 3) rfl _ _ w.heap.size 31 (Rc.cells ⟨s0, s1, s2, sa, sb, s5, s6, s7, s8, b9, s10, b11⟩) (0, 0) _ rfl (RcB.put ⟨s0, s1, s2, sa, sb, s5, s6, s7, s8, b9, s10, b11⟩ HX3.out) Try.underlying31 rfl rfl
                      · repeat' apply Below.setCell
                        all_goals first | exact HB3.out | exact Nat.le_refl _
                    · have hxq : (xx == 0) = false := by simp [hx0]
                      have hxq2 : (xx != 0) = true := by simp [hx0]
                      have HD : Hid (decP l = (rcZ, xx)) := Lib.hid (by rw [HD4.out]; simp [hx0])
                      clear hx0
                      go_wp2_with (go_at_call 27; (with_reducible refine (HCK.out _).mono ?_); rintro e w3 ⟨rfl, hb⟩; have HX3 := Lib.hid (HXY.out.below hb (heap_lt HXY.out)); have HN3 := Lib.hid (HNY.out.below hb (heap_lt HNY.out)); have HB3 := Lib.hid (HBY.out.trans (hb.mono HBY.out.size)); clear hb; obtain ⟨k0, k1, k2, k3, k4, k5, k6, k7, k8, k9, k10, k11⟩ := HN3.out.cells; simp only [rcZ] at k0 k1 k2 k3 k4 k5 k6 k7 k8 k9 k10 k11; obtain ⟨c0, c1, c2, c3, c4, c5, c6, c7, c8, c9, c10, c11⟩ := HX3.out.cells; have hfr := HX3.out.fr; simp only [rcZ] at c0 c1 c2 c3 c4 c5 c6 c7 c8 c9 c10 c11)
                      refine bodyPost_ret (v := .tuple #[.agg rcZ.cells, .int .i64 xx]) ?_ rfl (decOut_of HD.out rfl ?_)
                      · exact results_cell2 (p := 2) (u := 3) rfl _ _ w.heap.size 31 rcZ.cells (0, 0) _ rfl (RcB.put rcZ HX3.out) Try.underlying31 rfl rfl
                      · repeat' apply Below.setCell
                        all_goals first | exact HB3.out | exact Nat.le_refl _
      · have hq : (sm == x) = false := by simp; exact fun e => hck e.symm
        have hq2 : (sm != x) = true := by simp; exact fun e => hck e.symm
        have HD : Hid (decP l = (rcZ, 4)) := Lib.hid (by rw [HDP.out, if_pos hck])
        clear hck
        go_enter Try.func17, Try.ntmps17
        go_wp2_with fail
        refine wp_region_quiet_below (by kernel_rfl) (by kernel_rfl) ?_
        iterate 7 (go_big_quiet_step (with_reducible exact Calls.regrown_of (ESM.out _ (below_regrown _ _ _))))
        refine wpQuiet_nil ?_
        intro Wq hw'
        have hbq : Below W2.heap.size W2 Wq := by
          obtain ⟨⟨dq, osq⟩, hw''⟩ := hw'
          rw [hw'']; exact below_regrown _ _ _
        clear hw'
        have HXQ := Lib.hid (HX.out.below hbq (by have := HS1.out; have := HS2.out; omega))
        have HNQ := Lib.hid (HN.out.below hbq (by have := HS2.out; omega))
        have HBQ := Lib.hid (HL0.out.trans (hbq.mono HL0.out.size))
        clear hbq r44 hcx' c0 c1 c2 c3 c4 c5 c6 c7 c8 c9 c10 c11 hfr k0 k1 k2 k3 k4 k5 k6 k7 k8 k9 k10 k11
        obtain ⟨c0, c1, c2, c3, c4, c5, c6, c7, c8, c9, c10, c11⟩ := HXQ.out.cells
        obtain ⟨k0, k1, k2, k3, k4, k5, k6, k7, k8, k9, k10, k11⟩ := HNQ.out.cells
        have hfr := HXQ.out.fr
        simp only [rcZ] at c0 c1 c2 c3 c4 c5 c6 c7 c8 c9 c10 c11 k0 k1 k2 k3 k4 k5 k6 k7 k8 k9 k10 k11
        go_wp2_with fail
        refine bodyPost_ret (v := .tuple #[.agg rcZ.cells, .int .i64 4]) ?_ rfl (decOut_of HD.out rfl ?_)
        · exact results_cell2 (p := 2) (u := 3) rfl _ _ w.heap.size 31 rcZ.cells (0, 0) _ rfl (RcB.put rcZ HXQ.out) Try.underlying31 rfl rfl
        · repeat' apply Below.setCell
          all_goals first | exact HBQ.out | exact Nat.le_refl _
end Go.Proofs.Ytblhpbheejemnaa
