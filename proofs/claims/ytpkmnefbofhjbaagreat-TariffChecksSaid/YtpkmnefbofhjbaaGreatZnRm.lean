/- Plain facts: the errors of a list of zones, one zone at a time. -/
import Derived.Test.YtpkmnefbofhjbaaGreatZnF
namespace Go.Proofs.YtpkmnefbofhjbaaGreat.Zn
open Go.RowKit Go.Proofs.YtpkmnefbofhjbaaGreat Go.Maps

def anyP (L : List (Wd × Wd)) (s : Wd) : Bool := L.any fun e => e.1 == s
theorem val_any (L : List (Wd × Wd)) (s : Wd) : (val L s).isSome = anyP L s := by
  unfold val anyP
  rw [Option.isSome_map]
  induction L with
  | nil => rfl
  | cons e L ih =>
    rw [List.find?_cons, List.any_cons]
    cases h : (e.1 == s)
    · simpa using ih
    · rfl
theorem anyP_app (a b : List (Wd × Wd)) (s : Wd) : anyP (a ++ b) s = (anyP a s || anyP b s) := List.any_append
def mk (nm : Wd) (ps : List Wd) : List (Wd × Wd) := ps.map fun p => (p, nm)
theorem anyP_mk (nm s : Wd) (ps : List Wd) : anyP (mk nm ps) s = ps.any (· == s) := by
  unfold anyP mk
  rw [List.any_map]; rfl
theorem mk_app (nm : Wd) (a b : List Wd) : mk nm (a ++ b) = mk nm a ++ mk nm b := List.map_append
theorem pairs_snoc (l : List Zo) (z : Zo) : pairs (l ++ [z]) = pairs l ++ mk z.nm z.ps := by
  rw [pairs_app, pairs_cons, pairs_nil, List.append_nil]; rfl
theorem adP_ok {nm : Wd} : ∀ {ps : List Wd} {L L' : List (Wd × Wd)}, adP nm L ps = (0, L') → L' = L ++ mk nm ps
  | [], L, L', h => by
    rw [adP] at h; injection h with _ h
    rw [← h]; simp [mk]
  | p :: t, L, L', h => by
    rw [adP] at h
    split at h
    · injection h with h; cases h
    · split at h
      · injection h with h; cases h
      · rw [adP_ok h]; simp [mk]
theorem adZ_ok {L : List (Wd × Wd)} {z : Zo} (h : (adZ L z).1 = 0) : (adZ L z).2 = L ++ mk z.nm z.ps := by
  unfold adZ at *
  split at h
  · cases h
  · rename_i h1
    rw [if_neg h1]
    split at h
    · cases h
    · rename_i h2
      rw [if_neg h2]
      exact adP_ok (Prod.ext h rfl)
/-- The error of a zone behind others. -/
def zE (seen : List Zo) (z : Zo) : Int := if nmB z.nm = false then 8 else if (seen.any fun e => e.nm == z.nm) = true then 10 else (adZ (pairs seen) z).1
theorem ixF_step (seen : List Zo) (z : Zo) (t : List Zo) : (ixF seen (pairs seen) (z :: t)).1 = if zE seen z = 0 then (ixF (seen ++ [z]) (pairs (seen ++ [z])) t).1 else zE seen z := by
  rw [ixF]
  unfold zE
  by_cases h1 : nmB z.nm = false
  · rw [if_pos h1, if_pos h1]; rfl
  · rw [if_neg h1, if_neg h1]
    by_cases h2 : (seen.any fun e => e.nm == z.nm) = true
    · rw [if_pos h2, if_pos h2]; rfl
    · rw [if_neg h2, if_neg h2]
      by_cases h3 : (adZ (pairs seen) z).1 = 0
      · rw [if_pos h3, if_pos h3, adZ_ok h3, pairs_snoc]
      · rw [if_neg h3, if_neg h3]
theorem ixF_ok : ∀ (t seen : List Zo), (ixF seen (pairs seen) t).1 = 0 → (ixF seen (pairs seen) t).2 = pairs (seen ++ t)
  | [], seen, _ => by rw [ixF, List.append_nil]
  | z :: t, seen, h => by
    rw [ixF_step] at h
    by_cases h0 : zE seen z = 0
    · rw [if_pos h0] at h
      have ih := ixF_ok t (seen ++ [z]) h
      rw [ixF]
      unfold zE at h0
      split at h0
      · cases h0
      · rename_i h1
        split at h0
        · cases h0
        · rename_i h2
          rw [if_neg h1, if_neg h2, if_pos h0, adZ_ok h0, ← pairs_snoc, ih]
          simp
    · rw [if_neg h0] at h; exact absurd h h0
theorem ixL_ok {l : List Zo} (h : ckZ l = 0) : (ixL l).2 = pairs l := by
  unfold ckZ ixL at *
  split at h
  · cases h
  · rename_i h1
    rw [if_neg h1]
    exact ixF_ok l [] h
theorem zos_nil : zos [] = [] := rfl
end Go.Proofs.YtpkmnefbofhjbaaGreat.Zn
