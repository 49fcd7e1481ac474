/- Walk: the places sorted by their rests, at whatever length. -/
import Derived.Test.YtopngdjhnljmfaaDoorStW5
import Derived.Test.YtopngdjhnljmfaaDoorAmtOnes
namespace Go.Proofs.YtopngdjhnljmfaaDoor.St
open Go.RowKit

/-- The comparison reads rests that lie elsewhere. -/
theorem clo_of (g gb b off n c : Nat) (r : Int → Int) (w0 : World) (hn : n ≤ 65536) (hgb : gb ≠ g) (hb : b ≠ g) (hgbl : gb < w0.heap.size) (hbl : b < w0.heap.size)
    (hbox : w0.cell? ⟨gb, 0, none⟩ = some (.slice (some ⟨b, off, none⟩) n c)) (hz : ∀ i : Nat, i < n → w0.cell? ⟨b, off + i, none⟩ = some (.int .i64 (r i))) : CloOK w0 g gb n r := by
  intro d W h x y hx0 hx hy0 hy
  obtain ⟨x, rfl⟩ := Int.eq_ofNat_of_zero_le hx0
  obtain ⟨y, rfl⟩ := Int.eq_ofNat_of_zero_le hy0
  refine ⟨Lib.compareInt (r y) (r x), fun q => ?_, ?_⟩
  · exact closure_any x y gb b off n c (r x) (r y) (W.drewN q) (by omega) (by omega) hn (h.far hgb hgbl hbox) (h.far hb hbl (hz x (by omega))) (h.far hb hbl (hz y (by omega)))
  · have : Lib.compareInt (r y) (r x) < 0 ↔ r y < r x := by
      unfold Lib.compareInt
      split
      · exact ⟨fun _ => by assumption, fun _ => by decide⟩
      · split
        · exact ⟨fun h => by omega, fun h => by omega⟩
        · exact ⟨fun h => by omega, fun h => by omega⟩
    simp only [this]
set_option maxHeartbeats 1000000 in
theorem sorted_any (g gb n cap : Nat) (r : Int → Int) (w0 W : World) (HC : CloOK w0 g gb n r) (h : SR w0 g (rg 0 n) W) (hsz : n ≤ 200000) :
    Calls Tryd.prog 31 #[.slice (some ⟨g, 0, none⟩) n cap, fnv gb] W fun e w' => e = .returned (.tuple #[]) ∧ ∃ C, SP r 0 n C ∧ SR w0 g C w' := by
  have H := Lib.hid (stable_any g gb n cap r w0 W HC h hsz)
  clear HC h
  go_enter Tryd.func31, Tryd.ntmps31
  go_wp2_with (go_at_call 38; refine H.out.mono ?_; rintro e w' ⟨rfl, C, h1, h2⟩; have H1 := Lib.hid h1; have H2 := Lib.hid h2; clear h1 h2)
  go_end0
  exact ⟨rfl, C, H1.out, H2.out⟩
end Go.Proofs.YtopngdjhnljmfaaDoor.St
