/- Plain facts: tokens and their text, there and back. -/
import Derived.Test.YtkdimbpmgngajaaDoorLxArg
namespace Go.Proofs.YtkdimbpmgngajaaDoor.Lx
open Go Go.Lib Go.RowKit Go.Proofs.YtkdimbpmgngajaaDoor Go.Maps

theorem shf_map (D : List Tk) (a b : Nat) : (D.map (shf a)).map (shf b) = D.map (shf (a + b)) := by
  rw [List.map_map]
  apply List.map_congr_left
  intro t _
  simp [shf, Nat.add_assoc]
theorem back_step {S x : Wd} {D : List Tk} {m : Nat} (hinv : ∀ t, scn (S ++ t) = puts (D.map (shf t.length)) (scn t)) (h1 : skp false (src m x) = src m x) (h2 : tok (src m x) = .ok (m, x, [])) (h3 : src m x ≠ []) :
    ∀ t, scn ((S ++ src m x ++ [32]) ++ t) = puts ((D.map (shf ((src m x).length + 1)) ++ [(⟨m, (src m x).length + 1, x⟩ : Tk)]).map (shf t.length)) (scn t) := fun t => by
  have e : (S ++ src m x ++ [32]) ++ t = S ++ (src m x ++ 32 :: t) := by simp
  have hL : (src m x ++ 32 :: t).length = (src m x).length + 1 + t.length := by simp; omega
  rw [e, hinv, scn_blank h1 h2 h3, puts_put, hL, List.map_append, shf_map]
  rfl
theorem tkl_shf (N L : Nat) (D : List Tk) : tkl (N + L) (D.map (shf L)) = tkl N D := by
  unfold tkl
  rw [List.flatMap_map]
  congr 1
  funext t
  simp [tkv, shf]
  omega
theorem shf_zero (D : List Tk) : D.map (shf 0) = D := by
  have : (shf 0) = id := by funext t; rfl
  rw [this, List.map_id]
theorem back_end {S : Wd} {D : List Tk} (hinv : ∀ t, scn (S ++ t) = puts (D.map (shf t.length)) (scn t)) : scn S = .ok (D ++ [⟨0, 0, []⟩]) := by
  have := hinv []
  rw [List.append_nil, scn_end (r := []) rfl, List.length_nil, shf_zero] at this
  exact this
theorem own_other {w w' : World} {base H : Nat} {ty : TypeId} {c n : Nat} {v : Value} {l : List Value} (h : w.ownsRow base ty c v n l) (hb : w.grownBy w' (some H)) (hlt : ∀ a, v.ownBlock = some a → a ≠ H) : w'.ownsRow base ty c v n l := by
  refine ⟨h.1, ?_⟩
  rcases h.2 with h | ⟨g', cap, cur, h1, h2, h3, h4, h5, h6, h7⟩
  · exact .inl h
  · exact .inr ⟨g', cap, cur, h1, h2, (hb.block g' (Array.getElem?_eq_some_iff.1 h3).1 (fun e => by have h8 := Option.some.inj e; have h9 := hlt g' (by rw [h1]; rfl); omega)).trans h3, h4, h5, h6, h7⟩
/-- What is known of a token that its text gives back. -/
theorem prop_facts {k : Int} {X : ByteArray} (h : PropF k X) : ∃ m : Nat, k = (m : Int) ∧ skp false (src m X.data.toList) = src m X.data.toList ∧ tok (src m X.data.toList) = .ok (m, X.data.toList, []) ∧ src m X.data.toList ≠ [] ∧ 1 ≤ m ∧ m ≤ 4 ∧ (m = 2 → X.size ≤ 16 ∧ ∀ b ∈ X.data.toList, digB b = true) := by
  obtain ⟨m, a, b, rfl, h1, h2, h3⟩ := h
  obtain ⟨g1, g2, g3⟩ := scn_one h1 h2 h3
  refine ⟨m, rfl, g1, g2, g3, tok_kind g2, tok_kind4 g2, ?_⟩
  rintro rfl
  have hs : src 2 X.data.toList = X.data.toList := by unfold src; rw [if_neg (by decide)]
  rw [hs] at g2 g3
  cases hX : X.data.toList with
  | nil => exact absurd hX g3
  | cons c u =>
    rw [hX] at g2
    have hsz : X.size = (c :: u).length := by rw [← hX]; simp
    cases hl : lowB c
    · cases hd : digB c
      · exfalso
        cases h34 : (c == 34)
        · rw [tok_s hl hd h34] at g2
          cases hs4 : symT (c :: u) with
          | error e => rw [hs4] at g2; cases g2
          | ok y => rw [hs4] at g2; obtain ⟨y1, y2⟩ := y; injection g2 with g2; injection g2 with g2; omega
        · rw [eq_of_beq h34, tok_q] at g2
          cases hs4 : qotT u with
          | error e => rw [hs4] at g2; cases g2
          | ok y => rw [hs4] at g2; obtain ⟨y1, y2⟩ := y; injection g2 with g2; injection g2 with g2; omega
      · rw [tok_d hl hd] at g2
        cases hn : numT (c :: u) with
        | error e => rw [hn] at g2; cases g2
        | ok y =>
          obtain ⟨y1, y2⟩ := y
          rw [hn] at g2
          injection g2 with g2
          injection g2 with _ g2
          injection g2 with g2 _
          obtain ⟨n1, _, n3⟩ := num_ok rfl hd hn
          rw [g2] at n1 n3
          exact ⟨by rw [hsz]; exact n3, n1⟩
    · exfalso
      rw [tok_w hl] at g2
      cases hs4 : wrdT (c :: u) with
      | error e => rw [hs4] at g2; cases g2
      | ok y => rw [hs4] at g2; obtain ⟨y1, y2⟩ := y; injection g2 with g2; injection g2 with g2; omega
end Go.Proofs.YtkdimbpmgngajaaDoor.Lx
