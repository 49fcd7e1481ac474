/- Walk: the chapter's examples hold. -/
import Derived.Test.YtkdimbpmgngajaaDoorLxA
namespace Go.Proofs.YtkdimbpmgngajaaDoor.Lx
open Go Go.Lib Go.RowKit Go.Proofs.YtkdimbpmgngajaaDoor Go.Maps

theorem scn_good (s : ByteArray) (w : World) (hs : s.size ≤ maxLen) {D : List Tk} {n : Nat} (h : scnP s.data.toList = .ok D) (hn : D.length = n) : Calls Tryd.prog 10 #[.string s] w fun e w' => ∃ (A : Option Addr) (c : Nat), e = .returned (.tuple #[.slice A n c, .int .i64 0, .int .i64 0]) ∧ n ≤ c ∧ c ≤ maxLen ∧ TokR w' A s.size D ∧ Below w.heap.size w w' := by
  have h1 := Scan_any s w hs
  rw [h] at h1
  unfold ScnO at h1
  simp only at h1
  refine h1.mono ?_
  rintro e w' ⟨v, rfl, ho, hb⟩
  rw [hn] at ho
  obtain ⟨A, c, rfl, h1, h2, h3⟩ := tok_read ho hn
  exact ⟨A, c, rfl, h1, h2, h3, hb⟩
theorem scn_bad (s : ByteArray) (w : World) (hs : s.size ≤ maxLen) {m n p : Nat} (h : scnP s.data.toList = .error (m, n)) (hp : s.size - m = p) : Calls Tryd.prog 10 #[.string s] w fun e w' => e = .returned (.tuple #[.slice none 0 0, .int .i64 p, .int .i64 n]) ∧ Below w.heap.size w w' := by
  have h1 := Scan_any s w hs
  rw [h] at h1
  unfold ScnO at h1
  simp only at h1
  rw [hp] at h1
  exact h1
def awD : List Tk := [⟨1, 13, [117, 112, 116, 111]⟩, ⟨2, 8, [54, 48]⟩, ⟨1, 5, [112, 101, 114]⟩, ⟨2, 1, [49]⟩, ⟨0, 0, []⟩]
theorem aw1 (w : World) : Calls Tryd.prog 10 #[.string ⟨#[117, 112, 116, 111, 32, 54, 48, 32, 112, 101, 114, 32, 49]⟩] w fun e w' => ∃ (A : Option Addr) (c : Nat), e = .returned (.tuple #[.slice A 5 c, .int .i64 0, .int .i64 0]) ∧ 5 ≤ c ∧ c ≤ maxLen ∧ TokR w' A 13 awD ∧ Below w.heap.size w w' :=
  scn_good ⟨#[117, 112, 116, 111, 32, 54, 48, 32, 112, 101, 114, 32, 49]⟩ w (by decide) (D := awD) (by kernel_rfl) rfl
theorem aw2 (w : World) : Calls Tryd.prog 10 #[.string ⟨#[97, 32, 60, 62, 32, 34, 98]⟩] w fun e w' => e = .returned (.tuple #[.slice none 0 0, .int .i64 5, .int .i64 1]) ∧ Below w.heap.size w w' :=
  scn_bad ⟨#[97, 32, 60, 62, 32, 34, 98]⟩ w (by decide) (m := 2) (n := 1) (p := 5) (by kernel_rfl) rfl
theorem aw3 (w : World) : Calls Tryd.prog 18 #[.string ⟨#[117, 112, 116, 111]⟩] w fun e w' => e = .returned (.bool true) ∧ w' = w := by
  have h := keyword_any ⟨#[117, 112, 116, 111]⟩ w
  rwa [show kwB ⟨#[117, 112, 116, 111]⟩ = true from (kwB_iff _).2 (by rw [ByteArray.toList_eq]; decide)] at h
theorem aw4 (w : World) : Calls Tryd.prog 17 #[.string ⟨#[97, 32, 98]⟩] w fun e w' => e = .returned (.string ⟨#[34, 97, 32, 98, 34]⟩) ∧ w' = w := by
  have h := quote_any ⟨#[97, 32, 98]⟩ w (by decide)
  rwa [show quoV ⟨#[97, 32, 98]⟩ = ⟨#[34, 97, 32, 98, 34]⟩ from ba_ext (by decide +kernel)] at h
set_option maxRecDepth 100000 in
set_option maxHeartbeats 8000000 in
theorem awake_any (w : World) : Calls Tryd.prog 9 #[] w fun e w' => e = .returned (.bool true) ∧ Below w.heap.size w w' := by
  have heq := eqTk_same 1 0 8 ⟨#[112, 101, 114]⟩
  have hgd := guardTk
  go_enter Tryd.func9, Tryd.ntmps9
  go_wp2_with (first
    | (go_at_call 10; (with_reducible refine (aw1 _).mono ?_); rintro e w1 ⟨A, c, rfl, hc5, hcm, hT, hb1⟩; have HT := Lib.hid hT; have HB1 := Lib.hid hb1; clear hT hb1)
    | (go_at_call 10; (with_reducible refine (aw2 _).mono ?_); rintro e w2 ⟨rfl, hb2⟩; have HB2 := Lib.hid (HB1.out.trans (hb2.mono HB1.out.size)); have HT2 := Lib.hid (HT.out.below hb2); clear hb2; obtain ⟨b, rfl, -, a0, a1, a2, a3⟩ := HT2.out 1 (by decide); obtain ⟨b', hb', -, d0, d1, d2, d3⟩ := HT2.out 2 (by decide); obtain ⟨b'', hb'', -, f0, f1, f2, f3⟩ := HT2.out 4 (by decide); obtain rfl : b = b' := (by injection hb' with h; injection h); obtain rfl : b = b'' := (by injection hb'' with h; injection h); clear hb' hb''; have A1 : w2.cell? ⟨b, 5, none⟩ = some (.int .i64 60) := a1; have D0 : w2.cell? ⟨b, 8, none⟩ = some (.int .i64 1) := d0; have D1 : w2.cell? ⟨b, 9, none⟩ = some (.int .i64 0) := d1; have D2 : w2.cell? ⟨b, 10, none⟩ = some (.int .i64 8) := d2; have D3 : w2.cell? ⟨b, 11, none⟩ = some (.string ⟨#[112, 101, 114]⟩) := d3; have F2 : w2.cell? ⟨b, 18, none⟩ = some (.int .i64 13) := f2; clear a0 a1 a2 a3 d0 d1 d2 d3 f0 f1 f2 f3)
    | (go_at_call 18; (with_reducible refine (aw3 _).mono ?_); rintro e w3 ⟨rfl, rfl⟩)
    | (go_at_call 17; (with_reducible refine (aw4 _).mono ?_); rintro e w4 ⟨rfl, rfl⟩))
  go_ret
  exact ⟨rfl, HB2.out⟩
end Go.Proofs.YtkdimbpmgngajaaDoor.Lx
