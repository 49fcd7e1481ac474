/- Walk: All of the program. -/
import Derived.Test.YtokdfdinnaghmaaDoorTxCo
import Derived.Test.YtokdfdinnaghmaaDoorTxL1
import Derived.Test.YtokdfdinnaghmaaDoorTxLp
namespace Go.Proofs.YtokdfdinnaghmaaDoor.Va
open Go.RowKit Go.Proofs.YtokdfdinnaghmaaDoor.Tx

theorem lines_row {w : World} {A : Option Addr} {n cp B : Nat} {l : List ByteArray} (ho : w.ownsRow B 9 1 (.slice A n cp) n (l.map Value.string)) (hl : l.length = n) : LinesR w A l n := fun k hk => by
  obtain ⟨g, hA, hg, -, hc⟩ := row_read ho (by omega)
  exact ⟨g, hA, hg, hc k _ (by rw [List.getD_eq_getElem?_getD, List.getElem?_eq_getElem (by omega)]; rfl)⟩
theorem LinesR.below {w w' : World} {A : Option Addr} {l : List ByteArray} {n : Nat} (h : LinesR w A l n) (hb : Below w.heap.size w w') : LinesR w' A l n := fun k hk => by
  obtain ⟨g, hA, hg, hc⟩ := h k hk
  exact ⟨g, hA, Nat.lt_of_lt_of_le hg hb.size, (hb.cell (p := ⟨g, k, none⟩) hg).trans hc⟩
/-- The lines of a text, and what Decode says of them. -/
def allL (l : Wd) : List Wd := if okL l = true then (spl 10 l).dropLast else []
def allE (l : Wd) (j : Nat) : Int := (decT ((allL l).getD j [])).2
def allD (l : Wd) : List Rc := (allL l).map fun x => (decT x).1
def allX (l : Wd) : Int := if okL l = true then 0 else 1
def AllOut (l : Wd) (w : World) (e : Ending) (w' : World) : Prop :=
  ∃ v u, e = .returned (.tuple #[v, u, .int .i64 (allX l)]) ∧ Two w NoB (allD l) (allE l) (allL l).length v u NoB w'
theorem all_dec {l : Wd} {ls : List ByteArray} (h : byt ls = allL l) {k : Nat} (hk : k < ls.length) : decT (ls.getD k ⟨#[]⟩).data.toList = ((allD l).getD k rc0, allE l k) := by
  have h1 : (ls.getD k ⟨#[]⟩).data.toList = (allL l).getD k [] := by
    rw [← h, byt, List.getD_eq_getElem?_getD, List.getD_eq_getElem?_getD, List.getElem?_map, List.getElem?_eq_getElem hk]; rfl
  have h2 : (allD l).getD k rc0 = (decT ((allL l).getD k [])).1 := by
    unfold allD
    have h3 : k < (allL l).length := by rw [← h, byt_len]; exact hk
    rw [List.getD_eq_getElem?_getD, List.getD_eq_getElem?_getD, List.getElem?_map, List.getElem?_eq_getElem h3]; rfl
  rw [h1, h2]; rfl
theorem two_shift {w wr w' : World} {D : List Rc} {E : Nat → Int} {N : Nat} {v u : Value} (hb : Below w.heap.size w wr) (h : Two wr NoB D E N v u NoB w') : Two w NoB D E N v u NoB w' where
  ov := own_mono h.ov hb.size
  ou := own_mono h.ou hb.size
  vu := h.vu
  vF := fun _ _ hf => hf
  uF := fun _ _ hf => hf
  old := fun _ hf => hf.elim
  lt := fun _ hf => hf.elim
  ch := chg_below (hb.trans ((two_below h).mono hb.size))
theorem splA_mem (c : UInt8) : ∀ (l cur : Wd), ∀ x ∈ splA c cur l, x.length ≤ cur.length + l.length
  | [], cur, x, h => by simp [splA] at h; subst h; simp
  | y :: t, cur, x, h => by
    rw [splA] at h
    split at h
    · rcases List.mem_cons.1 h with rfl | h
      · simp
      · have := splA_mem c t [] x h; simp only [List.length_cons, List.length_nil] at this ⊢; omega
    · have := splA_mem c t (cur ++ [y]) x h; simp only [List.length_append, List.length_cons, List.length_nil] at this ⊢; omega
theorem allL_mem {l : Wd} : ∀ x ∈ allL l, x.length ≤ l.length := by
  intro x hx
  unfold allL at hx
  split at hx
  · have := splA_mem 10 l [] x (List.dropLast_subset _ hx); simpa using this
  · cases hx
theorem allL_len (l : Wd) : (allL l).length ≤ l.length := by
  unfold allL
  split
  · have := Tx.spl_len_le 10 l; rw [List.length_dropLast]; omega
  · simp
set_option maxRecDepth 100000 in
set_option maxHeartbeats 16000000 in
theorem all_any (s : ByteArray) (w : World) (hs : s.size ≤ 100000) (hs2 : (spl 10 s.data.toList).length ≤ 4097) (hE : Env w) : Calls Tryd.prog 16 #[.string s] w (AllOut s.data.toList w) := by
  have hsm : s.size ≤ maxLen := by unfold maxLen; omega
  cases hok : okL s.data.toList with
  | false =>
    have HOK := Lib.hid hok
    have HOUT : Hid (∀ e w', e = .returned (.tuple #[.slice none 0 0, .slice none 0 0, .int .i64 1]) → Below w.heap.size w w' → AllOut s.data.toList w e w') := Lib.hid (fun e w' h hb => by
      refine ⟨_, _, by unfold allX; rw [hok]; exact h, ?_⟩
      have hn : (allL s.data.toList).length = 0 := by unfold allL; rw [hok]; rfl
      rw [hn]
      exact two_nilB hb _ _)
    clear hok hs hs2 hE
    go_enter Tryd.func16, Tryd.ntmps16
    go_wp2_with (go_at_call 14; (with_reducible refine (lines_any s _ hsm).mono ?_); rintro e w1 ⟨h1, -, -, hb1⟩; obtain rfl := h1 HOK.out; have HB1 := Lib.hid hb1; clear hb1 h1)
    go_ret3
    exact HOUT.out _ _ rfl HB1.out
  | true =>
    have HOK := Lib.hid hok
    have HS2 := Lib.hid hs2
    have HLL : Hid (allL s.data.toList = (spl 10 s.data.toList).dropLast) := Lib.hid (by unfold allL; rw [hok]; rfl)
    obtain ⟨N, hN⟩ : ∃ N, (allL s.data.toList).length = N := ⟨_, rfl⟩
    have hN5 : N ≤ 5000 := by rw [← hN, HLL.out, List.length_dropLast]; omega
    have hx : allX s.data.toList = 0 := by unfold allX; rw [hok]; rfl
    have HOUT : Hid (∀ e w' v u, e = .returned (.tuple #[v, u, .int .i64 0]) → Two w NoB (allD s.data.toList) (allE s.data.toList) N v u NoB w' → AllOut s.data.toList w e w') := Lib.hid (fun e w' v u h ht => ⟨v, u, by rw [hx]; exact h, by rw [hN]; exact ht⟩)
    have HNN := Lib.hid hN
    have HSZ : Hid (∀ ls : List ByteArray, byt ls = allL s.data.toList → ∀ k, k < ls.length → (ls.getD k ⟨#[]⟩).size ≤ 900000) := Lib.hid (fun ls h k hk => by
      have hm : (ls.getD k ⟨#[]⟩).data.toList ∈ allL s.data.toList := by
        rw [← h, byt]
        refine List.mem_map.2 ⟨_, ?_, rfl⟩
        rw [List.getD_eq_getElem?_getD, List.getElem?_eq_getElem hk]; exact List.getElem_mem hk
      have := allL_mem _ hm
      rw [bsz, bsz] at this; omega)
    have HV : Hid (∀ W, Below w.heap.size w W → Env W) := Lib.hid fun W h => hE.below h
    clear hok hN hx hs hs2 hE
    go_enter Tryd.func16, Tryd.ntmps16
    go_wp2_with (first
      | (go_at_call 14; (with_reducible refine (lines_any s _ hsm).mono ?_); rintro e w1 ⟨-, -, h1, hb1⟩; obtain ⟨v0, ls, rfl, hls, -, ho⟩ := h1 HOK.out HS2.out; rw [← HLL.out] at hls; have hln : ls.length = N := (by rw [← byt_len, hls]; exact HNN.out); rw [hln] at ho; obtain ⟨Ap, cp, rfl⟩ := own_slice ho; have hlr := lines_row ho hln; have HLR := Lib.hid hlr; have HB1 := Lib.hid hb1; have HLS := Lib.hid hls; have HLN := Lib.hid hln; clear h1 hb1 hls hln ho hlr)
      | (go_at_call 29; (with_reducible refine (collect_dec (l := ls) (D := allD s.data.toList) (E := allE s.data.toList) HLR.out hN5 (fun k hk W hb => dec_gives (all_dec HLS.out (by rw [HLN.out]; exact hk)) (HSZ.out ls HLS.out k (by rw [HLN.out]; exact hk)) W (HV.out W (HB1.out.trans (hb.mono HB1.out.size))))).mono ?_); rintro e w2 ⟨v2, u2, rfl, ht2⟩; have HT2 := Lib.hid (two_shift HB1.out ht2); clear ht2))
    go_ret3
    exact HOUT.out _ _ _ _ rfl HT2.out
end Go.Proofs.YtokdfdinnaghmaaDoor.Va
