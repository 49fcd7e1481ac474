/- Walks: the payloads of a batch without records. -/
import Derived.Test.YtobkafkknbdacaaDoorBaP
import Derived.Deep.Cut
import Derived.Deep.AppendLies
import Derived.Deep.RegionHeld3
namespace Go.Proofs.YtobkafkknbdacaaDoor.Va
open Go.RowKit

theorem intInfo : (Tryd.prog.info? 3).map (fun i => (i.zero, i.size, i.bytes)) = some (some (.int .i64 0), 1, 8) := by kernel_rfl
theorem ints_lit (w : World) (zs : List Int) (hr : ∀ z ∈ zs, -9223372036854775808 ≤ z ∧ z ≤ 9223372036854775807) : Ints (w.alloc (.cells (zs.map (Value.int .i64)).toArray 3)) (some ⟨w.heap.size, 0, none⟩) zs.length zs.length zs := by
  refine ⟨⟨by simp, fun u hu => ?_, .inr ⟨_, rfl, fun j u hu => ⟨by simp, ?_⟩⟩⟩, hr⟩
  · obtain ⟨z, -, rfl⟩ := List.mem_map.1 hu
    rfl
  · have h := heap_alloc_new w (.cells (zs.map (Value.int .i64)).toArray 3)
    rw [add_none, Nat.zero_add]
    simp only [World.cell?, h]
    simpa using hu
set_option maxRecDepth 100000 in
set_option maxHeartbeats 8000000 in
theorem writeHead_any (s n f c : Int) (hr : ∀ z ∈ [s, n, f, c], -9223372036854775808 ≤ z ∧ z ≤ 9223372036854775807) (w : World) :
    Calls Tryd.prog 19 #[.agg #[.int .i64 s, .int .i64 n, .int .i64 f, .int .i64 c]] w (Gives w w.heap.size (listE [s, n, f, c])) := by
  obtain ⟨L, hL⟩ : ∃ L, w.alloc (.cells #[.int .i64 s, .int .i64 n, .int .i64 f, .int .i64 c] 41) = L := ⟨_, rfl⟩
  have hbl : Blk L w.heap.size 41 #[.int .i64 s, .int .i64 n, .int .i64 f, .int .i64 c] := hL ▸ Blk.new w _ _
  have e0 := hbl.cell 0; have e1 := hbl.cell 1; have e2 := hbl.cell 2; have e3 := hbl.cell 3
  simp at e0 e1 e2 e3
  have HB := Lib.hid (show Below w.heap.size w L from hL ▸ below_lit w _)
  have HI : Hid (Ints (L.alloc (.cells #[.int .i64 s, .int .i64 n, .int .i64 f, .int .i64 c] 3)) (some ⟨L.heap.size, 0, none⟩) 4 4 [s, n, f, c]) := Lib.hid (ints_lit L [s, n, f, c] hr)
  have HL2 := Lib.hid (below_lit L (.cells #[.int .i64 s, .int .i64 n, .int .i64 f, .int .i64 c] 3))
  clear hbl hr
  go_enter Tryd.func19, Tryd.ntmps19
  go_wp2_with (go_at_call 30; (with_reducible refine (putNumbers_any HI.out (by decide)).mono ?_); rintro e w2 ⟨v2, rfl, ho2, hb2⟩; have HO2 := Lib.hid ho2; have HB2 := Lib.hid (HL2.out.trans (hb2.mono HL2.out.size)); clear ho2 hb2)
  go_ret
  exact ⟨_, rfl, ⟨own_mono HO2.out.1 (Nat.le_trans HB.out.size HL2.out.size), HO2.out.2⟩, HB.out.trans (HB2.out.mono HB.out.size)⟩
set_option maxRecDepth 100000 in
set_option maxHeartbeats 8000000 in
theorem writeNil_any (s n : Int) (w : World) :
    Calls Tryd.prog 20 #[.agg #[.int .i64 s, .int .i64 n, .int .i64 1, .slice none 0 0]] w fun e w' => e = .returned (.slice none 0 0) ∧ Below w.heap.size w w' := by
  have hlist : ∀ W, Calls Tryd.prog 31 #[.slice none 0 0, .func (.func 32) #[] #[], .string ⟨#[10]⟩] W fun e w' => e = .returned (.slice none 0 0) ∧ Below W.heap.size W w' := by
    intro W
    go_enter Tryd.func31, Tryd.ntmps31
    go_wp2_with fail
    go_loopw [7, 14] (fun v iv wr => v = .slice none 0 0 ∧ iv = .int .i64 0 ∧ Below W.heap.size W wr) (fun _ _ _ => 0)
    case atStart => exact ⟨rfl, rfl, Below.refl _ _⟩
    case round =>
      obtain ⟨rfl, rfl, HB⟩ := hrel
      go_wp2_with fail
      go_ret
      exact ⟨rfl, HB⟩
  obtain ⟨L, hL⟩ : ∃ L, w.alloc (.cells #[.int .i64 s, .int .i64 n, .int .i64 1, .slice none 0 0] 31) = L := ⟨_, rfl⟩
  have hbl : Blk L w.heap.size 31 #[.int .i64 s, .int .i64 n, .int .i64 1, .slice none 0 0] := hL ▸ Blk.new w _ _
  have e2 := hbl.cell 2; have e3 := hbl.cell 3
  simp at e2 e3
  have HB := Lib.hid (show Below w.heap.size w L from hL ▸ below_lit w _)
  have HLI := Lib.hid hlist
  clear hbl hlist
  go_enter Tryd.func20, Tryd.ntmps20
  go_wp2_with (go_at_call 31; (with_reducible refine (HLI.out _).mono ?_); rintro e w2 ⟨rfl, hb2⟩; have HB2 := Lib.hid hb2; clear hb2)
  go_ret
  exact ⟨rfl, HB.out.trans (HB2.out.mono HB.out.size)⟩
theorem own_one (w : World) (v : Value) : ((w.alloc (.cells #[v] 3)).drew).ownsRow w.heap.size 3 1 (.slice (some ⟨w.heap.size, 0, none⟩) 1 1) 1 [v] := by
  have h := heap_alloc_new w (.cells #[v] 3)
  exact ⟨by simp, .inr ⟨w.heap.size, 1, #[v], rfl, Nat.le_refl _, h, Nat.le_refl _, by unfold maxLen; omega, rfl, rfl⟩⟩
theorem ints_own {w : World} {base g n cap : Nat} {zs : List Int} (h : w.ownsRow base 3 1 (.slice (some ⟨g, 0, none⟩) n cap) n (zs.map (Value.int .i64))) (hr : ∀ z ∈ zs, -9223372036854775808 ≤ z ∧ z ≤ 9223372036854775807) : Ints w (some ⟨g, 0, none⟩) n cap zs := by
  have hl : (zs.map (Value.int .i64)).length = n := by rw [h.1]; omega
  refine ⟨⟨hl, fun u hu => ?_, .inr ⟨_, rfl, fun j u hu => ?_⟩⟩, hr⟩
  · obtain ⟨z, -, rfl⟩ := List.mem_map.1 hu
    rfl
  · obtain ⟨q, -⟩ := List.getElem?_eq_some_iff.1 hu
    refine ⟨(h.lt g rfl).2, ?_⟩
    rw [add_none, Nat.zero_add]
    rw [h.cellAt j (by omega)]
    exact hu
theorem news4 {W : World} {g : Nat} {t : TypeId} (h : Blk W g t #[.int .i64 0, .int .i64 0, .int .i64 0, .int .i64 0, .int .i64 0, .int .i64 0]) : ∀ j u, [Value.int .i64 0, .int .i64 0, .int .i64 0, .int .i64 0][j]? = some u → W.drew.cell? ((⟨g, 2, none⟩ : Addr).add j) = some u := by
  intro j u hj
  have ha : ((⟨g, 2, none⟩ : Addr).add j) = ⟨g, 2 + j, none⟩ := by unfold Addr.add; split <;> simp_all
  rw [ha]
  refine (h.cell (2 + j)).trans ?_
  have hjl : j < 4 := by
    obtain ⟨q, -⟩ := List.getElem?_eq_some_iff.1 hj
    exact q
  have hc : j = 0 ∨ j = 1 ∨ j = 2 ∨ j = 3 := by omega
  rcases hc with rfl | rfl | rfl | rfl <;> exact hj
set_option maxRecDepth 100000 in
set_option maxHeartbeats 8000000 in
theorem writeTotals_zero (w : World) :
    Calls Tryd.prog 21 #[.agg #[.int .i64 0, .int .i64 0, .int .i64 0, .int .i64 0, .int .i64 0, .int .i64 0]] w (Gives w w.heap.size (listE [0, 0, 0, 0, 0])) := by
  obtain ⟨i0, hi0, hz0, hz1, hz2⟩ := info_parts intInfo
  obtain ⟨L, hL⟩ : ∃ L, w.alloc (.cells #[.int .i64 0, .int .i64 0, .int .i64 0, .int .i64 0, .int .i64 0, .int .i64 0] 27) = L := ⟨_, rfl⟩
  have hbl : Blk L w.heap.size 27 #[.int .i64 0, .int .i64 0, .int .i64 0, .int .i64 0, .int .i64 0, .int .i64 0] := hL ▸ Blk.new w _ _
  have e0 := hbl.cell 0; have e1 := hbl.cell 1; have e2 := hbl.cell 2; have e3 := hbl.cell 3; have e4 := hbl.cell 4; have e5 := hbl.cell 5
  simp at e0 e1 e2 e3 e4 e5
  have HB := Lib.hid (show Below w.heap.size w L from hL ▸ below_lit w _)
  have HBL := Lib.hid hbl
  clear hbl
  go_enter Tryd.func21, Tryd.ntmps21
  go_upto_region 1 with fail
  have hg : w.heap.size < L.heap.size := HBL.out.lt
  have hn1 : ¬ w.heap.size = L.heap.size := by omega
  have hn2 : ¬ L.heap.size = w.heap.size := by omega
  go_region_held3 (fun w' => w'.cell? ⟨w.heap.size, 0, none⟩ = some (.int .i64 0) ∧ w'.cell? ⟨w.heap.size, 1, none⟩ = some (.int .i64 0) ∧ w'.cell? ⟨w.heap.size, 2, none⟩ = some (.int .i64 0) ∧ w'.cell? ⟨w.heap.size, 3, none⟩ = some (.int .i64 0) ∧ w'.cell? ⟨w.heap.size, 4, none⟩ = some (.int .i64 0) ∧ w'.cell? ⟨w.heap.size, 5, none⟩ = some (.int .i64 0)) (first
      | go_keep
      | (go_split_ands
         refine ⟨?_, ?_, ?_, ?_, ?_, ?_⟩ <;> ((rw [hgrow.cell_far _ (by simp; omega) (by simp [Value.ownBlock]; omega)]); assumption)))
    ((refine step_append_lies _ (by rfl) _ _ _ (by rfl) L.heap.size 3 i0 _ 1 8 Tryd.underlying67 hi0 hz0 hz1 hz2 rfl (by omega) _ _ _ (by rfl) (own_one L (.int .i64 0))
        ⟨w.heap.size, 2, none⟩ 4 4 [.int .i64 0, .int .i64 0, .int .i64 0, .int .i64 0] (by rfl) (by rfl) (news4 (HBL.out.alloc _)) (by simp [Value.oneCell'])
        (by omega) (by unfold maxLen; omega) (by omega) (by simp) (L.heap.size + 1) (by simp) ?_; intro gg cap wA hownA hgrow hat hltA))
  have HOA := Lib.hid hownA
  have hbA : Below w.heap.size w wA := ((HB.out.alloc HB.out.size (.cells #[.int .i64 0] 3)).drew).grown hgrow (by simp; omega) (fun q hq => by
      have hqq : L.heap.size = q := by simpa [Value.ownBlock] using hq
      rw [← hqq]; exact HB.out.size)
  have HBA := Lib.hid hbA
  have HIA : Hid (Ints wA (some ⟨gg, 0, none⟩) 5 cap [0, 0, 0, 0, 0]) := Lib.hid (ints_own HOA.out (by simp))
  clear hownA hgrow hat hltA hbA hg hn1 hn2
  go_wp2_with (go_at_call 30; (with_reducible refine (putNumbers_any HIA.out (by decide)).mono ?_); rintro e w2 ⟨v2, rfl, ho2, hb2⟩; have HO2 := Lib.hid ho2; have HB2 := Lib.hid hb2; clear ho2 hb2)
  go_ret
  exact ⟨_, rfl, ⟨own_mono HO2.out.1 HBA.out.size, HO2.out.2⟩, HBA.out.trans (HB2.out.mono HBA.out.size)⟩
end Go.Proofs.YtobkafkknbdacaaDoor.Va
