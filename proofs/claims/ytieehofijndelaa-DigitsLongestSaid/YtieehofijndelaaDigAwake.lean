/- Walk: the chapter's examples hold. -/
import Derived.Test.YtieehofijndelaaDigNorm2
import Derived.Test.YtieehofijndelaaDigPack2
import Derived.Test.YtieehofijndelaaDigUnp
import Derived.Test.YtieehofijndelaaDigLong
import Derived.Test.YtieehofijndelaaDigMaskA
namespace Go.Proofs.Ytieehofijndelaa
open Go.RowKit

theorem ownsRow_below {w w' : World} {base : Nat} {e : TypeId} {size : Nat} {v : Value} {n : Nat} {xs : List Value} (h : w.ownsRow base e size v n xs) (hb : Below w.heap.size w w') : w'.ownsRow base e size v n xs := by
  refine ⟨h.1, ?_⟩
  rcases h.2 with h | ⟨g, cap, cur, e1, hg, hh, r⟩
  · exact .inl h
  · have hlt : g < w.heap.size := by
      rcases Nat.lt_or_ge g w.heap.size with h | h
      · exact h
      · rw [Array.getElem?_eq_none h] at hh; cases hh
    exact .inr ⟨g, cap, cur, e1, hg, (hb.block g hlt).trans hh, r⟩

theorem awNormal (w : World) :
    Calls Try.prog 15 #[.string ⟨#[48, 49, 55, 49, 53, 53, 53]⟩, .string ⟨#[52, 57]⟩] w fun e w' => e = .returned (.tuple #[.string ⟨#[52, 57, 49, 55, 49, 53, 53, 53]⟩, .int .i64 0]) ∧ w = w' :=
  (normal_any ⟨#[48, 49, 55, 49, 53, 53, 53]⟩ ⟨#[52, 57]⟩ w (by decide) (by decide)).mono fun e w' ⟨he, hw⟩ => ⟨he.trans (ret_pair rfl rfl), hw⟩
theorem awPack (w : World) :
    Calls Try.prog 16 #[.string ⟨#[49, 50, 51]⟩] w fun e w' => ∃ v, e = .returned (.tuple #[v, .int .i64 0]) ∧ w'.ownsRow w.heap.size 5 1 v 2 (U [18, 63]) ∧ Below w.heap.size w w' :=
  (pack_ok ⟨#[49, 50, 51]⟩ w rfl).mono fun e w' ⟨v, he, ho, hb⟩ => ⟨v, he, ho, hb⟩
theorem awUnpack (w : World) :
    Calls Try.prog 17 #[.slice (some ⟨w.heap.size, 0, none⟩) 2 2] (w.alloc (.cells #[.int .u8 31, .int .u8 35] 5)) fun e w' => e = .returned (.tuple #[.string ⟨#[]⟩, .int .i64 12]) ∧ Below (w.heap.size + 1) (w.alloc (.cells #[.int .u8 31, .int .u8 35] 5)) w' := by
  have hB : Bts (w.alloc (.cells #[.int .u8 31, .int .u8 35] 5)) (some ⟨w.heap.size, 0, none⟩) 2 [31, 35] := by
    refine ⟨rfl, by simp, fun k hk => ⟨w.heap.size, 0, rfl, by simp, ?_⟩⟩
    rw [cell_of_row _ _ _ _ _ (0, 0) (heap_alloc_new _ _)]
    match k, hk with
    | 0, _ => rfl
    | 1, _ => rfl
  refine (unpack_any _ 2 2 [31, 35] _ hB (by decide)).mono fun e w' ⟨he, hb⟩ => ⟨he.trans (ret_pair rfl rfl), ?_⟩
  simpa using hb
theorem awLongest (w : World) :
    Calls Try.prog 13 #[.string ⟨#[52, 57, 49, 53]⟩, .slice (some ⟨w.heap.size, 0, none⟩) 4 4] (w.alloc (.cells #[.string ⟨#[52]⟩, .string ⟨#[52, 57]⟩, .string ⟨#[52, 57, 49]⟩, .string ⟨#[52, 57]⟩] 9)) fun e w' => e = .returned (.int .i64 2) ∧ (w.alloc (.cells #[.string ⟨#[52]⟩, .string ⟨#[52, 57]⟩, .string ⟨#[52, 57, 49]⟩, .string ⟨#[52, 57]⟩] 9)) = w' := by
  have hB : Strs (w.alloc (.cells #[.string ⟨#[52]⟩, .string ⟨#[52, 57]⟩, .string ⟨#[52, 57, 49]⟩, .string ⟨#[52, 57]⟩] 9)) (some ⟨w.heap.size, 0, none⟩) 4 [⟨#[52]⟩, ⟨#[52, 57]⟩, ⟨#[52, 57, 49]⟩, ⟨#[52, 57]⟩] := by
    refine ⟨rfl, fun k hk => ⟨w.heap.size, 0, rfl, by simp, ?_⟩⟩
    rw [cell_of_row _ _ _ _ _ (0, 0) (heap_alloc_new _ _)]
    match k, hk with
    | 0, _ => rfl
    | 1, _ => rfl
    | 2, _ => rfl
    | 3, _ => rfl
  refine (longest_any ⟨#[52, 57, 49, 53]⟩ _ 4 4 _ _ hB (by decide) (by intro p hp; simp at hp; rcases hp with rfl | rfl | rfl | rfl <;> decide)).mono fun e w' ⟨he, hb⟩ => ⟨he.trans (ret_int rfl), hb⟩
theorem awMask (w : World) :
    Calls Try.prog 18 #[.string ⟨#[52, 57, 49, 53]⟩, .int .i64 2] w fun e w' => e = .returned (.string ⟨#[52, 57, 120, 120]⟩) ∧ Below w.heap.size w w' :=
  (mask_any ⟨#[52, 57, 49, 53]⟩ 2 w (by decide)).mono fun e w' ⟨he, hb⟩ => ⟨he.trans (ret_str rfl), hb⟩

set_option maxHeartbeats 2000000 in
theorem awake_any (w : World) :
    Calls Try.prog 6 #[] w fun e w' => e = .returned (.bool true) ∧ Below w.heap.size w w' := by
  go_enter Try.func6, Try.ntmps6
  go_wp2_with (first
    | (go_at_call 15; refine (awNormal _).mono ?_; rintro e w1 ⟨rfl, rfl⟩)
    | (go_at_call 16; refine (awPack _).mono ?_; rintro e w1 ⟨v, rfl, hown, hb1⟩)
    | (go_at_call 17; refine (awUnpack _).mono ?_; rintro e w2 ⟨rfl, hb2⟩; have hb2' : Below w1.heap.size w1 w2 := ((Below.refl _ w1).alloc (Nat.le_refl _) _).trans (hb2.mono (by omega)); have hown2 := ownsRow_below hown hb2'; have hcv : ∀ wx, Below w2.heap.size w2 wx → True := fun _ _ => trivial; have hconv : (convert 33 9 v).run Try.prog w2 = .ok (.string ⟨#[18, 63]⟩) w2 := own_string (l := [18, 63]) _ _ _ Try.underlying33 Try.underlying5 Try.underlying9 hown2 (by simp))
    | (go_at_call 13; refine (awLongest _).mono ?_; rintro e w3 ⟨rfl, rfl⟩)
    | (go_at_call 18; refine (awMask _).mono ?_; rintro e w4 ⟨rfl, hb4⟩))
  go_ret
  exact ⟨rfl, (hb1.trans (hb2'.mono hb1.size)).trans (((Below.refl _ w2).alloc (Nat.le_refl _) _).trans (hb4.mono (by simp)) |>.mono (Nat.le_trans hb1.size hb2'.size))⟩
end Go.Proofs.Ytieehofijndelaa
