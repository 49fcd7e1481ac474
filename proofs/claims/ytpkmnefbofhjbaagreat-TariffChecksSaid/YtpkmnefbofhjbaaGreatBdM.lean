/- Plain mathematics of bands: pieces that are merged; the band of an instant; where it can change. -/
namespace Go.Proofs.YtpkmnefbofhjbaaGreat

/-- A slot (days, from, to), a band (its name and slots), a piece (its band, its limits). -/
abbrev Sl := Int × Int × Int
abbrev Bd := ByteArray × List Sl
abbrev Pc := ByteArray × Int × Int

/-- A piece is joined to the last one if both have one band. -/
def push (o : List Pc) (p : Pc) : List Pc :=
  match o.getLast? with
  | some q => if q.1 = p.1 then o.dropLast ++ [(q.1, q.2.1, p.2.2)] else o ++ [p]
  | none => [p]
theorem push_nil (p : Pc) : push [] p = [p] := rfl
theorem push_snoc (o : List Pc) (m : ByteArray) (u v : Int) (n : ByteArray) (x y : Int) : push (o ++ [(m, u, v)]) (n, x, y) = if m = n then o ++ [(m, u, y)] else o ++ [(m, u, v)] ++ [(n, x, y)] := by
  unfold push
  simp
theorem snoc_cases {α : Type} (o : List α) : o = [] ∨ ∃ p q, o = p ++ [q] := by
  rcases List.eq_nil_or_concat o with h | ⟨p, q, h⟩
  · exact .inl h
  · exact .inr ⟨p, q, by simpa using h⟩
theorem push_push (o : List Pc) (n : ByteArray) (x y z : Int) : push (push o (n, x, y)) (n, y, z) = push o (n, x, z) := by
  rcases snoc_cases o with rfl | ⟨p, ⟨m, u, v⟩, rfl⟩
  · rw [push_nil, push_nil]
    exact (push_snoc [] n x y n y z).trans (by simp)
  · rw [push_snoc, push_snoc]
    by_cases h : m = n
    · subst h; rw [if_pos rfl, if_pos rfl, push_snoc, if_pos rfl]
    · rw [if_neg h, if_neg h, push_snoc, if_pos rfl]
theorem push_length (o : List Pc) (p : Pc) : (push o p).length ≤ o.length + 1 := by
  rcases snoc_cases o with rfl | ⟨q, ⟨m, u, v⟩, rfl⟩
  · simp [push_nil]
  · obtain ⟨n, x, y⟩ := p
    rw [push_snoc]
    split <;> simp
/-- The instants from x on, one by one. -/
def ext (f : Int → ByteArray) (o : List Pc) (x : Int) : Nat → List Pc
  | 0 => o
  | k + 1 => push (ext f o x k) (f (x + k), x + k, x + k + 1)
theorem ext_const {f : Int → ByteArray} {o : List Pc} {x : Int} {n : ByteArray} : ∀ k : Nat, 0 < k → (∀ t, x ≤ t → t < x + k → f t = n) → ext f o x k = push o (n, x, x + k) := by
  intro k
  induction k with
  | zero => intro h; exact absurd h (by omega)
  | succ k ih =>
    intro _ hf
    show push (ext f o x k) (f (x + k), x + k, x + k + 1) = _
    rw [hf (x + k) (by omega) (by omega)]
    rcases Nat.eq_zero_or_pos k with rfl | hk
    · simp [ext]
    · rw [ih hk (fun t h1 h2 => hf t h1 (by omega)), push_push]
      congr 3
      omega
theorem ext_add (f : Int → ByteArray) (o : List Pc) (x : Int) (j : Nat) : ∀ k : Nat, ext f (ext f o x j) (x + j) k = ext f o x (j + k) := by
  intro k
  induction k with
  | zero => rfl
  | succ k ih =>
    show push (ext f (ext f o x j) (x + j) k) (f (x + j + k), x + j + k, x + j + k + 1) = push (ext f o x (j + k)) (f (x + ((j + k : Nat) : Int)), x + ((j + k : Nat) : Int), x + ((j + k : Nat) : Int) + 1)
    rw [ih, show x + (j : Int) + k = x + ((j + k : Nat) : Int) by omega]
/-- The pieces of a period. -/
def ctP (f : Int → ByteArray) (a b : Int) : List Pc := ext f [] a (b - a).toNat
theorem ctP_start (f : Int → ByteArray) (a : Int) : ctP f a a = [] := by unfold ctP; rw [Int.sub_self]; rfl
theorem ctP_step {f : Int → ByteArray} {a x y : Int} {n : ByteArray} (h1 : a ≤ x) (h2 : x < y) (hf : ∀ t, x ≤ t → t < y → f t = n) : ctP f a y = push (ctP f a x) (n, x, y) := by
  unfold ctP
  rw [show (y - a).toNat = (x - a).toNat + (y - x).toNat by omega, ← ext_add, show a + ((x - a).toNat : Int) = x by omega, ext_const (n := n) (y - x).toNat (by omega) (fun t g1 g2 => hf t g1 (by omega)), show x + ((y - x).toNat : Int) = y by omega]
theorem const_of {f : Int → ByteArray} {x y : Int} (h : ∀ t, x ≤ t → t + 1 < y → f t = f (t + 1)) : ∀ t, x ≤ t → t < y → f t = f x := by
  intro t ht hty
  obtain ⟨k, rfl⟩ : ∃ k : Nat, t = x + k := ⟨(t - x).toNat, by omega⟩
  clear ht
  induction k with
  | zero => simp
  | succ k ih =>
    have h1 := ih (by omega)
    have h2 := h (x + k) (by omega) (by omega)
    rw [show x + ((k + 1 : Nat) : Int) = x + k + 1 by omega, ← h2, h1]

/-- What the list of the pieces is. -/
theorem ctP_spec (f : Int → ByteArray) (a : Int) : ∀ b, a < b → ∃ o n x, ctP f a b = o ++ [(n, x, b)] ∧ a ≤ x ∧ x < b ∧ (∀ t, x ≤ t → t < b → f t = n) ∧ (∀ q, o.getLast? = some q → q.2.2 = x ∧ q.1 ≠ n) ∧ ((x = a ∧ o = []) ∨ (a < x ∧ o = ctP f a x)) := by
  intro b hab
  obtain ⟨k, rfl⟩ : ∃ k : Nat, b = a + 1 + k := ⟨(b - a - 1).toNat, by omega⟩
  clear hab
  induction k with
  | zero =>
    refine ⟨[], f a, a, ?_, by omega, by omega, fun t h1 h2 => by rw [show t = a by omega], fun q h => by simp at h, .inl ⟨rfl, rfl⟩⟩
    rw [ctP_step (x := a) (y := a + 1 + (0 : Nat)) (n := f a) (by omega) (by omega) (fun t h1 h2 => by rw [show t = a by omega]), ctP_start, push_nil]
    rfl
  | succ k ih =>
    obtain ⟨o, n, x, h1, h2, h3, h4, h6, h7⟩ := ih
    have hs : ctP f a (a + 1 + ((k + 1 : Nat) : Int)) = push (ctP f a (a + 1 + k)) (f (a + 1 + k), a + 1 + k, a + 1 + ((k + 1 : Nat) : Int)) :=
      ctP_step (by omega) (by omega) (fun t g1 g2 => by rw [show t = a + 1 + k by omega])
    rw [hs, h1, push_snoc]
    by_cases hn : n = f (a + 1 + k)
    · rw [if_pos hn]
      refine ⟨o, n, x, rfl, h2, by omega, fun t g1 g2 => ?_, h6, h7⟩
      rcases Int.lt_or_le t (a + 1 + k) with h | h
      · exact h4 t g1 h
      · rw [show t = a + 1 + k by omega, ← hn]
    · rw [if_neg hn]
      refine ⟨o ++ [(n, x, a + 1 + k)], _, a + 1 + k, rfl, by omega, by omega, fun t g1 g2 => by rw [show t = a + 1 + k by omega], fun q hq => ?_, .inr ⟨by omega, h1.symm⟩⟩
      simp at hq
      subst hq
      exact ⟨rfl, hn⟩
def pc0 : Pc := (ByteArray.empty, 0, 0)
/-- Piece by piece: within the period, of one band; adjacent to the one before, of another band. -/
theorem ctP_all (f : Int → ByteArray) (a : Int) : ∀ b, a < b → (∀ k, k < (ctP f a b).length → a ≤ ((ctP f a b).getD k pc0).2.1 ∧ ((ctP f a b).getD k pc0).2.1 < ((ctP f a b).getD k pc0).2.2 ∧ ((ctP f a b).getD k pc0).2.2 ≤ b ∧
      (∀ t, ((ctP f a b).getD k pc0).2.1 ≤ t → t < ((ctP f a b).getD k pc0).2.2 → f t = ((ctP f a b).getD k pc0).1) ∧
      (0 < k → ((ctP f a b).getD (k - 1) pc0).2.2 = ((ctP f a b).getD k pc0).2.1 ∧ ((ctP f a b).getD (k - 1) pc0).1 ≠ ((ctP f a b).getD k pc0).1)) ∧
    0 < (ctP f a b).length ∧ ((ctP f a b).getD 0 pc0).2.1 = a ∧ ((ctP f a b).getD ((ctP f a b).length - 1) pc0).2.2 = b := by
  suffices h : ∀ N : Nat, ∀ b, a < b → (b - a).toNat ≤ N → (∀ k, k < (ctP f a b).length → a ≤ ((ctP f a b).getD k pc0).2.1 ∧ ((ctP f a b).getD k pc0).2.1 < ((ctP f a b).getD k pc0).2.2 ∧ ((ctP f a b).getD k pc0).2.2 ≤ b ∧
      (∀ t, ((ctP f a b).getD k pc0).2.1 ≤ t → t < ((ctP f a b).getD k pc0).2.2 → f t = ((ctP f a b).getD k pc0).1) ∧
      (0 < k → ((ctP f a b).getD (k - 1) pc0).2.2 = ((ctP f a b).getD k pc0).2.1 ∧ ((ctP f a b).getD (k - 1) pc0).1 ≠ ((ctP f a b).getD k pc0).1)) ∧
    0 < (ctP f a b).length ∧ ((ctP f a b).getD 0 pc0).2.1 = a ∧ ((ctP f a b).getD ((ctP f a b).length - 1) pc0).2.2 = b from
    fun b hb => h (b - a).toNat b hb (Nat.le_refl _)
  intro N
  induction N with
  | zero => intro b h1 h2; omega
  | succ N ih =>
    intro b hab hN
    obtain ⟨o, n, x, h1, h2, h3, h4, h6, h7⟩ := ctP_spec f a b hab
    rw [h1]
    have hlast : (o ++ [(n, x, b)]).getD o.length pc0 = (n, x, b) := by simp [List.getD]
    have hlen : (o ++ [(n, x, b)]).length = o.length + 1 := by simp
    rcases h7 with ⟨rfl, rfl⟩ | ⟨hx, ho⟩
    · refine ⟨fun k hk => ?_, by simp, rfl, rfl⟩
      obtain rfl : k = 0 := by simpa using hk
      exact ⟨by simp, by simpa using h3, by simp, fun t g1 g2 => h4 t (by simpa using g1) (by simpa using g2), fun h => absurd h (by omega)⟩
    · obtain ⟨i1, i2, i3, i4⟩ := ih x hx (by omega)
      rw [← ho] at i1 i2 i3 i4
      have hlow : ∀ k, k < o.length → (o ++ [(n, x, b)]).getD k pc0 = o.getD k pc0 := fun k hk => by simp [List.getD, List.getElem?_append_left hk]
      refine ⟨fun k hk => ?_, by simp, by rw [hlow 0 i2]; exact i3, by rw [hlen, Nat.add_sub_cancel, hlast]⟩
      rw [hlen] at hk
      rcases Nat.lt_or_ge k o.length with hlt | hge
      · obtain ⟨j1, j2, j3, j4, j5⟩ := i1 k hlt
        rw [hlow k hlt]
        refine ⟨j1, j2, by omega, j4, fun h => ?_⟩
        rw [hlow (k - 1) (by omega)]
        exact j5 h
      · obtain rfl : k = o.length := by omega
        rw [hlast]
        refine ⟨h2, h3, Int.le_refl _, h4, fun h => ?_⟩
        rw [hlow _ (by omega)]
        have hq : o.getLast? = some (o.getD (o.length - 1) pc0) := by
          rw [List.getLast?_eq_getElem?]
          simp [List.getD, List.getElem?_eq_getElem (show o.length - 1 < o.length by omega)]
        exact h6 _ hq
/-- The pieces are few. -/
theorem ctP_length (f : Int → ByteArray) (a b : Int) : (ctP f a b).length ≤ (b - a).toNat := by
  unfold ctP
  generalize (b - a).toNat = k
  induction k with
  | zero => exact Nat.le_refl _
  | succ k ih => exact Nat.le_trans (push_length _ _) (by omega)
/-- How much of the pieces has a name. -/
def secs (l : List Pc) (n : ByteArray) : Int := (l.map fun p => if p.1 = n then p.2.2 - p.2.1 else 0).sum
theorem secs_nil (n : ByteArray) : secs [] n = 0 := rfl
theorem secs_snoc (l : List Pc) (p : Pc) (n : ByteArray) : secs (l ++ [p]) n = secs l n + if p.1 = n then p.2.2 - p.2.1 else 0 := by
  simp [secs, List.sum_append]
theorem secs_push (l : List Pc) (m : ByteArray) (x y : Int) (n : ByteArray) (h : ∀ q, l.getLast? = some q → q.2.2 = x) : secs (push l (m, x, y)) n = secs l n + if m = n then y - x else 0 := by
  rcases snoc_cases l with rfl | ⟨p, ⟨k, u, v⟩, rfl⟩
  · rw [push_nil]; simp [secs]
  · have hv := h (k, u, v) (by simp)
    simp only at hv
    subst hv
    rw [push_snoc]
    split
    · rename_i hk
      subst hk
      rw [secs_snoc, secs_snoc]
      dsimp only
      split <;> omega
    · rw [secs_snoc]
theorem ctP_last (f : Int → ByteArray) (a b : Int) (h : a ≤ b) : ∀ q, (ctP f a b).getLast? = some q → q.2.2 = b := by
  intro q hq
  rcases Int.lt_or_le a b with hab | hab
  · obtain ⟨o, n, x, h1, _⟩ := ctP_spec f a b hab
    rw [h1] at hq
    simp at hq
    subst hq; rfl
  · obtain rfl : a = b := by omega
    rw [ctP_start] at hq; simp at hq
/-- The seconds of all names of a list without repetitions, in which all bands of the instants occur, add up. -/
theorem secs_all {f : Int → ByteArray} {ns : List ByteArray} (hn : ns.Nodup) (a : Int) : ∀ k : Nat, (∀ t, a ≤ t → t < a + k → f t ∈ ns) → (ns.map (secs (ctP f a (a + k)))).sum = k := by
  intro k
  induction k with
  | zero =>
    intro hf
    rw [show a + ((0 : Nat) : Int) = a by omega, ctP_start]
    clear hn hf
    induction ns with
    | nil => rfl
    | cons n ns ih => simp only [List.map_cons, List.sum_cons, secs_nil]; rw [ih]; rfl
  | succ k ih =>
    intro hf
    have h1 := ih (fun t h1 h2 => hf t h1 (by omega))
    have hs : ctP f a (a + ((k + 1 : Nat) : Int)) = push (ctP f a (a + k)) (f (a + k), a + k, a + ((k + 1 : Nat) : Int)) :=
      ctP_step (by omega) (by omega) (fun t g1 g2 => by rw [show t = a + k by omega])
    have hm := hf (a + k) (by omega) (by omega)
    have hp : ∀ n, secs (ctP f a (a + ((k + 1 : Nat) : Int))) n = secs (ctP f a (a + k)) n + if f (a + k) = n then 1 else 0 := fun n => by
      rw [hs, secs_push _ _ _ _ _ (ctP_last f a (a + k) (by omega))]
      split <;> omega
    have hsum : ∀ (ns : List ByteArray), (ns.map (secs (ctP f a (a + ((k + 1 : Nat) : Int))))).sum = (ns.map (secs (ctP f a (a + k)))).sum + (ns.map fun n => if f (a + k) = n then (1 : Int) else 0).sum := by
      intro ns
      induction ns with
      | nil => rfl
      | cons n ns ih => simp only [List.map_cons, List.sum_cons]; rw [ih, hp]; omega
    have hone : ∀ (ns : List ByteArray), ns.Nodup → (f (a + k) ∈ ns → (ns.map fun n => if f (a + k) = n then (1 : Int) else 0).sum = 1) ∧ (¬ f (a + k) ∈ ns → (ns.map fun n => if f (a + k) = n then (1 : Int) else 0).sum = 0) := by
      intro ns
      induction ns with
      | nil => intro _; exact ⟨fun h => (by cases h), fun _ => rfl⟩
      | cons n ns ih =>
        intro hn
        obtain ⟨g1, g2⟩ := List.nodup_cons.1 hn
        obtain ⟨i1, i2⟩ := ih g2
        simp only [List.map_cons, List.sum_cons, List.mem_cons]
        by_cases h : f (a + k) = n
        · rw [if_pos h, i2 (by rw [h]; exact g1)]
          exact ⟨fun _ => by omega, fun h' => absurd (.inl h) h'⟩
        · rw [if_neg h]
          exact ⟨fun h' => by rw [i1 (h'.resolve_left h)]; omega, fun h' => by rw [i2 (fun h2 => h' (.inr h2))]; omega⟩
    rw [hsum, h1, (hone ns hn).1 hm]
    omega
/-- Adjacent parts, each of one band, joined. -/
def mrg (f : Int → ByteArray) (o : List Pc) (l : List (Int × Int)) : List Pc := l.foldl (fun o p => push o (f p.1, p.1, p.2)) o
theorem mrg_snoc (f : Int → ByteArray) (o : List Pc) (l : List (Int × Int)) (x y : Int) : mrg f o (l ++ [(x, y)]) = push (mrg f o l) (f x, x, y) := by
  unfold mrg; rw [List.foldl_append]; rfl
theorem mrg_length (f : Int → ByteArray) (l : List (Int × Int)) : (mrg f [] l).length ≤ l.length := by
  suffices h : ∀ (l : List (Int × Int)) (o : List Pc), (mrg f o l).length ≤ o.length + l.length by simpa using h l []
  intro l
  induction l with
  | nil => intro o; exact Nat.le_refl _
  | cons p l ih =>
    intro o
    have h1 := ih (push o (f p.1, p.1, p.2))
    have h2 := push_length o (f p.1, p.1, p.2)
    show (mrg f (push o (f p.1, p.1, p.2)) l).length ≤ o.length + (l.length + 1)
    omega

/-- Whether a slot is in order; whether it has a minute of a day with a bit. -/
def okS (s : Sl) : Bool := decide (1 ≤ s.1 ∧ s.1 ≤ 255 ∧ 0 ≤ s.2.1 ∧ s.2.1 < s.2.2 ∧ s.2.2 ≤ 1440)
theorem okS_iff {s : Sl} : okS s = true ↔ 1 ≤ s.1 ∧ s.1 ≤ 255 ∧ 0 ≤ s.2.1 ∧ s.2.1 < s.2.2 ∧ s.2.2 ≤ 1440 := by unfold okS; exact decide_eq_true_iff
def inS (bit : Nat) (m : Int) (s : Sl) : Bool := decide (s.1 / (2 ^ bit : Nat) % 2 = 1 ∧ s.2.1 ≤ m ∧ m < s.2.2)
/-- The band of a minute; the last one's name where no slot has it. -/
def atB (bit : Nat) (m : Int) (l : List Bd) : ByteArray :=
  match l.find? fun b => b.2.any (inS bit m) with
  | some b => b.1
  | none => (l.getLastD (ByteArray.empty, [])).1
/-- The bit of a day. -/
def bitOf (hol : List Int) (d : Int) : Nat := if hol.contains d then 7 else ((d + 5) % 7).toNat
theorem bitOf_lt (hol : List Int) (d : Int) : bitOf hol d < 8 := by unfold bitOf; split <;> omega
/-- The band of an instant. -/
def atV (l : List Bd) (hol : List Int) (t : Int) : ByteArray := atB (bitOf hol (t / 86400)) (t % 86400 / 60) l
theorem atB_congr {l : List Bd} {b b' : Nat} {m m' : Int} (h : ∀ d ∈ l, ∀ s ∈ d.2, inS b m s = inS b' m' s) : atB b m l = atB b' m' l := by
  unfold atB
  have : l.find? (fun d => d.2.any (inS b m)) = l.find? (fun d => d.2.any (inS b' m')) := by
    generalize hlst : (ByteArray.empty, ([] : List Sl)) = z
    clear hlst
    induction l with
    | nil => rfl
    | cons d l ih =>
      have h1 : d.2.any (inS b m) = d.2.any (inS b' m') := by
        have h2 := h d (List.mem_cons_self ..)
        generalize d.2 = ss at h2
        induction ss with
        | nil => rfl
        | cons s ss ih2 =>
          rw [List.any_cons, List.any_cons, h2 s (List.mem_cons_self ..), ih2 fun s' hs' => h2 s' (List.mem_cons_of_mem _ hs')]
      rw [List.find?_cons, List.find?_cons, h1, ih fun d' hd' => h d' (List.mem_cons_of_mem _ hd')]
  rw [this]
theorem atB_none {l : List Bd} {b : Nat} {m : Int} (h : ∀ d ∈ l, ∀ s ∈ d.2, inS b m s = false) : atB b m l = (l.getLastD (ByteArray.empty, [])).1 := by
  unfold atB
  rw [List.find?_eq_none.2 fun d hd => by
    rw [List.any_eq_true]
    rintro ⟨s, hs, he⟩
    rw [h d hd s hs] at he; cases he]
/-- The band stays, where no slot begins or ends. -/
theorem atV_same {l : List Bd} (hol : List Int) (hok : ∀ d ∈ l, ∀ s ∈ d.2, okS s = true) {t : Int}
    (h : ∀ d ∈ l, ∀ s ∈ d.2, (t + 1) % 86400 ≠ s.2.1 * 60 ∧ (t + 1) % 86400 ≠ s.2.2 * 60 ∧ ((t + 1) % 86400 = 0 → s.2.2 ≠ 1440)) : atV l hol t = atV l hol (t + 1) := by
  unfold atV
  by_cases hr : (t + 1) % 86400 = 0
  · rw [atB_none, atB_none]
    · intro d hd s hs
      have h1 := okS_iff.1 (hok d hd s hs)
      have h2 := h d hd s hs
      unfold inS
      rw [decide_eq_false]
      omega
    · intro d hd s hs
      have h1 := okS_iff.1 (hok d hd s hs)
      have h2 := h d hd s hs
      unfold inS
      rw [decide_eq_false]
      omega
  · rw [show (t + 1) / 86400 = t / 86400 by omega]
    refine atB_congr fun d hd s hs => ?_
    have h1 := okS_iff.1 (hok d hd s hs)
    have h2 := h d hd s hs
    unfold inS
    have e1 : (s.2.1 ≤ t % 86400 / 60) ↔ (s.2.1 ≤ (t + 1) % 86400 / 60) := by omega
    have e2 : (t % 86400 / 60 < s.2.2) ↔ ((t + 1) % 86400 / 60 < s.2.2) := by omega
    simp only [e1, e2]
theorem atB_mem {l : List Bd} (h : l ≠ []) (b : Nat) (m : Int) : atB b m l ∈ l.map (·.1) := by
  unfold atB
  split
  · rename_i d hd
    exact List.mem_map.2 ⟨d, List.mem_of_find?_eq_some hd, rfl⟩
  · rw [List.mem_map]
    refine ⟨_, ?_, rfl⟩
    rcases snoc_cases l with rfl | ⟨p, q, rfl⟩
    · exact absurd rfl h
    · simp

/-- The limits of the slots of a day; of some days. -/
def limS (d : Int) (ss : List Sl) : List Int := ss.flatMap fun s => [d * 86400 + s.2.1 * 60, d * 86400 + s.2.2 * 60]
def limD (d : Int) (l : List Bd) : List Int := l.flatMap fun b => limS d b.2
def limN (l : List Bd) (d : Int) (n : Nat) : List Int := (List.range n).flatMap fun (i : Nat) => limD (d + i) l
theorem limS_snoc (d : Int) (ss : List Sl) (s : Sl) : limS d (ss ++ [s]) = limS d ss ++ [d * 86400 + s.2.1 * 60, d * 86400 + s.2.2 * 60] := by simp [limS]
theorem limD_snoc (d : Int) (l : List Bd) (b : Bd) : limD d (l ++ [b]) = limD d l ++ limS d b.2 := by simp [limD]
theorem limN_succ (l : List Bd) (d : Int) (n : Nat) : limN l d (n + 1) = limN l d n ++ limD (d + n) l := by simp [limN, List.range_succ]
theorem limS_length (d : Int) (ss : List Sl) : (limS d ss).length = 2 * ss.length := by
  unfold limS
  induction ss with
  | nil => rfl
  | cons s ss ih => simp [ih]; omega
/-- How many slots there are. -/
def nsl (l : List Bd) : Nat := (l.map fun b => b.2.length).sum
theorem nsl_cons (b : Bd) (l : List Bd) : nsl (b :: l) = b.2.length + nsl l := by simp [nsl]
theorem nsl_snoc (l : List Bd) (b : Bd) : nsl (l ++ [b]) = nsl l + b.2.length := by simp [nsl, List.sum_append]
theorem limD_length (d : Int) (l : List Bd) : (limD d l).length = 2 * nsl l := by
  unfold limD
  induction l with
  | nil => rfl
  | cons b l ih => rw [List.flatMap_cons, List.length_append, limS_length, ih, nsl_cons]; omega
theorem limN_length (l : List Bd) (d : Int) (n : Nat) : (limN l d n).length = 2 * nsl l * n := by
  induction n with
  | zero => rfl
  | succ n ih => rw [limN_succ, List.length_append, ih, limD_length, Nat.mul_succ]
theorem limN_mem {l : List Bd} {d : Int} {n i : Nat} (hi : i < n) {b : Bd} (hb : b ∈ l) {s : Sl} (hs : s ∈ b.2) : (d + i) * 86400 + s.2.1 * 60 ∈ limN l d n ∧ (d + i) * 86400 + s.2.2 * 60 ∈ limN l d n := by
  unfold limN limD limS
  constructor
  · exact List.mem_flatMap.2 ⟨i, List.mem_range.2 hi, List.mem_flatMap.2 ⟨b, hb, List.mem_flatMap.2 ⟨s, hs, by simp⟩⟩⟩
  · exact List.mem_flatMap.2 ⟨i, List.mem_range.2 hi, List.mem_flatMap.2 ⟨b, hb, List.mem_flatMap.2 ⟨s, hs, by simp⟩⟩⟩
/-- Between the limits of its days, the band stays. -/
theorem atV_lim {l : List Bd} (hol : List Int) (hok : ∀ d ∈ l, ∀ s ∈ d.2, okS s = true) {a b : Int} {n : Nat} (hn : b ≤ (a / 86400 + n) * 86400) {t : Int} (h1 : a ≤ t) (h2 : t + 1 < b)
    (h : ¬ t + 1 ∈ limN l (a / 86400) n) : atV l hol t = atV l hol (t + 1) := by
  refine atV_same hol hok fun d hd s hs => ?_
  have h3 := okS_iff.1 (hok d hd s hs)
  obtain ⟨i, hi⟩ : ∃ i : Nat, (t + 1) / 86400 = a / 86400 + i := ⟨((t + 1) / 86400 - a / 86400).toNat, by omega⟩
  have hin : i < n := by omega
  obtain ⟨g1, g2⟩ := limN_mem (d := a / 86400) hin hd hs
  rw [← hi] at g1 g2
  refine ⟨fun he => h ?_, fun he => h ?_, fun h0 he => h ?_⟩
  · rwa [show t + 1 = (t + 1) / 86400 * 86400 + s.2.1 * 60 by omega]
  · rwa [show t + 1 = (t + 1) / 86400 * 86400 + s.2.2 * 60 by omega]
  · obtain ⟨j, hj⟩ : ∃ j : Nat, t / 86400 = a / 86400 + j := ⟨(t / 86400 - a / 86400).toNat, by omega⟩
    obtain ⟨_, g3⟩ := limN_mem (d := a / 86400) (n := n) (i := j) (by omega) hd hs
    rw [← hj] at g3
    rwa [show t + 1 = t / 86400 * 86400 + s.2.2 * 60 by omega]
/-- The pieces of a program that cuts at a list of instants. -/
theorem mrg_prs {f : Int → ByteArray} {a : Int} {prs : Int → List Int → List (Int × Int)} (hp0 : ∀ x, prs x [] = []) (hp : ∀ x y l, prs x (y :: l) = (x, y) :: prs y l) :
    ∀ (E : List Int) (x : Int), a ≤ x → (x :: E).Pairwise (· < ·) → (∀ t, x ≤ t → t + 1 < E.getLastD x → ¬ t + 1 ∈ E → f t = f (t + 1)) → mrg f (ctP f a x) (prs x E) = ctP f a (E.getLastD x) := by
  intro E
  induction E with
  | nil => intro x _ _ _; rw [hp0]; rfl
  | cons y E ih =>
    intro x hax hs hf
    rw [List.pairwise_cons] at hs
    obtain ⟨h1, h2⟩ := hs
    have hxy := h1 y (List.mem_cons_self ..)
    have hl : (y :: E).getLastD x = E.getLastD y := by cases E <;> simp [List.getLastD]
    have hyl : ∀ {l : List Int} {y : Int}, (y :: l).Pairwise (· < ·) → y ≤ l.getLastD y := by
      intro l
      induction l with
      | nil => intro y _; exact Int.le_refl _
      | cons z l ih =>
        intro y h
        rw [List.pairwise_cons] at h
        have g1 := ih h.2
        have g2 := h.1 z (List.mem_cons_self ..)
        have e : (z :: l).getLastD y = l.getLastD z := by cases l <;> simp [List.getLastD]
        rw [e]; omega
    have hyl' := hyl h2
    rw [hp, hl]
    rw [hl] at hf
    have hmem : ∀ e ∈ y :: E, y ≤ e := by
      intro e he
      rcases List.mem_cons.1 he with rfl | he
      · exact Int.le_refl _
      · exact Int.le_of_lt ((List.pairwise_cons.1 h2).1 e he)
    have hc := const_of (f := f) (x := x) (y := y) fun t g1 g2 => hf t g1 (by omega) fun hm => by have := hmem _ hm; omega
    show mrg f (push (ctP f a x) (f x, x, y)) (prs y E) = _
    rw [← ctP_step hax hxy hc]
    refine ih y (by omega) h2 fun t g1 g2 g3 => hf t (by omega) g2 fun hm => ?_
    rcases List.mem_cons.1 hm with h | h
    · omega
    · exact g3 h
/-- The first of the numbers f 0, .., f (n - 1) that is not 0; 0 if there is none. -/
def fst0 (f : Nat → Int) : Nat → Int
  | 0 => 0
  | n + 1 => if fst0 f n = 0 then f n else fst0 f n
theorem fst0_next {f : Nat → Int} {k : Nat} (h : fst0 f k = 0) (h2 : f k = 0) : fst0 f (k + 1) = 0 := by simp [fst0, h, h2]
theorem fst0_hit {f : Nat → Int} {k : Nat} {e : Int} (h : fst0 f k = 0) (h2 : f k = e) (h3 : e ≠ 0) : ∀ {n : Nat}, k < n → fst0 f n = e := by
  intro n
  induction n with
  | zero => intro h; exact absurd h (Nat.not_lt_zero k)
  | succ n ih =>
    intro hk
    rcases Nat.lt_or_ge k n with hlt | hge
    · show (if fst0 f n = 0 then f n else fst0 f n) = e
      rw [ih hlt, if_neg h3]
    · obtain rfl : k = n := by omega
      show (if fst0 f k = 0 then f k else fst0 f k) = e
      rw [if_pos h, h2]
theorem fst0_all {f : Nat → Int} : ∀ {n : Nat}, fst0 f n = 0 → ∀ k, k < n → f k = 0 := by
  intro n
  induction n with
  | zero => intro _ k hk; exact absurd hk (Nat.not_lt_zero k)
  | succ n ih =>
    intro h k hk
    by_cases h0 : fst0 f n = 0
    · rw [fst0, if_pos h0] at h
      rcases Nat.lt_or_ge k n with hlt | hge
      · exact ih h0 k hlt
      · rw [show k = n by omega]; exact h
    · rw [fst0, if_neg h0] at h; exact absurd h h0
theorem fst0_congr {f g : Nat → Int} {n : Nat} (h : ∀ k, k < n → f k = g k) : fst0 f n = fst0 g n := by
  induction n with
  | zero => rfl
  | succ n ih => rw [fst0, fst0, ih fun k hk => h k (by omega), h n (by omega)]

/-- Whether a byte can stand in a name; whether a text is a name. -/
def nmC (c : UInt8) : Bool := decide (97 ≤ c.toNat ∧ c.toNat ≤ 122) || decide (48 ≤ c.toNat ∧ c.toNat ≤ 57) || decide (c.toNat = 45)
def nmL (c : UInt8) : Bool := decide (97 ≤ c.toNat ∧ c.toNat ≤ 122)
def nmOk (s : ByteArray) : Bool := decide (1 ≤ s.size ∧ s.size ≤ 24) && (match s.data.toList with | [] => false | c :: _ => nmL c) && s.data.toList.all nmC
theorem nmOk_ne {s : ByteArray} (h : nmOk s = true) : s.size ≠ 0 := by
  unfold nmOk at h
  simp only [Bool.and_eq_true, decide_eq_true_eq] at h
  omega
/-- The error of the slots of a band, the last one or not. -/
def ckS (l : List Sl) (last : Bool) : Int := if last != l.isEmpty then 8 else if 64 < l.length then 5 else if l.all okS then 0 else 6
/-- The error of a band; of a list. -/
def ckAt (l : List Bd) (i : Nat) : Int := if nmOk (l.getD i (ByteArray.empty, [])).1 = false then 8 else if (l.take i).any (fun e => decide (e.1 = (l.getD i (ByteArray.empty, [])).1)) then 10 else ckS (l.getD i (ByteArray.empty, [])).2 (decide (i + 1 = l.length))
def ckB (l : List Bd) : Int := if l.length = 0 then 8 else if 64 < l.length then 5 else fst0 (ckAt l) l.length
theorem ckAt_0 {l : List Bd} {i : Nat} (h : ckAt l i = 0) : nmOk (l.getD i (ByteArray.empty, [])).1 = true ∧ (∀ j, j < i → (l.getD j (ByteArray.empty, [])).1 ≠ (l.getD i (ByteArray.empty, [])).1) ∧ (l.getD i (ByteArray.empty, [])).2.all okS = true := by
  unfold ckAt at h
  generalize (l.getD i (ByteArray.empty, [])) = b at *
  split at h
  · cases h
  · rename_i h1
    split at h
    · cases h
    · rename_i h2
      refine ⟨by simpa using h1, fun j hj he => h2 ?_, ?_⟩
      · rw [List.any_eq_true]
        by_cases hl : j < l.length
        · refine ⟨l.getD j (ByteArray.empty, []), ?_, decide_eq_true he⟩
          rw [List.mem_take_iff_getElem]
          exact ⟨j, by omega, by simp [List.getD, List.getElem?_eq_getElem hl]⟩
        · exfalso
          have : l.getD j (ByteArray.empty, []) = (ByteArray.empty, []) := by simp [List.getD, List.getElem?_eq_none (show l.length ≤ j by omega)]
          rw [this] at he
          have h3 : nmOk b.1 = true := by simpa using h1
          rw [← he] at h3
          exact absurd h3 (by decide)
      · unfold ckS at h
        split at h
        · cases h
        · split at h
          · cases h
          · split at h
            · assumption
            · cases h
/-- What a valid list is. -/
theorem ckB_0 {l : List Bd} (h : ckB l = 0) : l ≠ [] ∧ l.length ≤ 64 ∧ (∀ b ∈ l, nmOk b.1 = true) ∧ (l.map (·.1)).Nodup ∧ ∀ b ∈ l, ∀ s ∈ b.2, okS s = true := by
  unfold ckB at h
  split at h
  · cases h
  · rename_i h1
    split at h
    · cases h
    · have h3 := fun k hk => ckAt_0 (fst0_all h k hk)
      have hm : ∀ b ∈ l, ∃ k, k < l.length ∧ l.getD k (ByteArray.empty, []) = b := by
        intro b hb
        obtain ⟨k, hk, he⟩ := List.mem_iff_getElem.1 hb
        exact ⟨k, hk, by simp [List.getD, List.getElem?_eq_getElem hk, he]⟩
      refine ⟨fun h => h1 (by simp [h]), by omega, fun b hb => ?_, ?_, fun b hb s hs => ?_⟩
      · obtain ⟨k, hk, rfl⟩ := hm b hb
        exact (h3 k hk).1
      · rw [List.nodup_iff_pairwise_ne, List.pairwise_iff_getElem]
        intro i j hi hj hij
        rw [List.length_map] at hi hj
        have := (h3 j hj).2.1 i hij
        simpa [List.getD, List.getElem?_eq_getElem hi, List.getElem?_eq_getElem hj] using this
      · obtain ⟨k, hk, rfl⟩ := hm b hb
        exact List.all_eq_true.1 (h3 k hk).2.2 s hs
end Go.Proofs.YtpkmnefbofhjbaaGreat
