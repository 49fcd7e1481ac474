/- Walk of the reference: Names. -/
import Derived.Test.YtflonakoagjmhaaZnNa
namespace Go.Proofs.Ytflonakoagjmhaa.Zn
open Go.RowKit Go.Lib Go.Proofs.Ytflonakoagjmhaa

theorem ltN_trans {a b c : Wd} (h : ltN a b) (k : ltN b c) : ltN a c := less_trans a b c h k
theorem ltN_total {a b : Wd} (h : ¬ ltN a b) (k : a ≠ b) : ltN b a := less_total a b (by unfold ltN at h; simpa using h) (by rw [beq_eq_false_iff_ne]; exact k)
theorem ltN_ne {a b : Wd} (h : ltN a b) : b ≠ [] := by
  rintro rfl
  cases a <;> simp [ltN, Op.bytesLess] at h
/-- The least of the names behind 'last'; none: nothing. -/
def Lst (D : List Wd) (last least : Wd) : Prop := (least = [] ∧ ∀ x ∈ D, ¬ ltN last x) ∨ (least ∈ D ∧ ltN last least ∧ ∀ x ∈ D, ltN last x → x = least ∨ ltN least x)
theorem Lst.nil (last : Wd) : Lst [] last [] := .inl ⟨rfl, by simp⟩
theorem Lst.skip {D : List Wd} {last least x : Wd} (h : Lst D last least) (hx : ¬ ltN last x) : Lst (D ++ [x]) last least := by
  rcases h with ⟨h1, h2⟩ | ⟨h1, h2, h3⟩
  · refine .inl ⟨h1, fun y hy => ?_⟩
    rcases List.mem_append.1 hy with hy | hy
    · exact h2 y hy
    · rw [List.mem_singleton.1 hy]; exact hx
  · refine .inr ⟨List.mem_append.2 (.inl h1), h2, fun y hy hl => ?_⟩
    rcases List.mem_append.1 hy with hy | hy
    · exact h3 y hy hl
    · rw [List.mem_singleton.1 hy] at hl; exact absurd hl hx
theorem Lst.first {D : List Wd} {last x : Wd} (h : Lst D last []) (hx : ltN last x) : Lst (D ++ [x]) last x := by
  rcases h with ⟨-, h2⟩ | ⟨h1, h2, -⟩
  · refine .inr ⟨by simp, hx, fun y hy hl => ?_⟩
    rcases List.mem_append.1 hy with hy | hy
    · exact absurd hl (h2 y hy)
    · exact .inl (List.mem_singleton.1 hy)
  · exact absurd rfl (ltN_ne h2)
theorem Lst.less {D : List Wd} {last least x : Wd} (h : Lst D last least) (hne : least ≠ []) (hx : ltN last x) (hl : ltN x least) : Lst (D ++ [x]) last x := by
  rcases h with ⟨h1, -⟩ | ⟨-, -, h3⟩
  · exact absurd h1 hne
  · refine .inr ⟨by simp, hx, fun y hy hy2 => ?_⟩
    rcases List.mem_append.1 hy with hy | hy
    · rcases h3 y hy hy2 with rfl | h
      · exact .inr hl
      · exact .inr (ltN_trans hl h)
    · exact .inl (List.mem_singleton.1 hy)
theorem Lst.more {D : List Wd} {last least x : Wd} (h : Lst D last least) (hne : least ≠ []) (hl : ¬ ltN x least) : Lst (D ++ [x]) last least := by
  rcases h with ⟨h1, -⟩ | ⟨h1, h2, h3⟩
  · exact absurd h1 hne
  · refine .inr ⟨List.mem_append.2 (.inl h1), h2, fun y hy hy2 => ?_⟩
    rcases List.mem_append.1 hy with hy | hy
    · exact h3 y hy hy2
    · rw [List.mem_singleton.1 hy]
      by_cases he : x = least
      · exact .inl he
      · exact .inr (ltN_total hl he)
/-- The names found so far, and the last of them. -/
structure Fnd (N L : List Wd) (last : Wd) : Prop where
  asc : L.Pairwise ltN
  sub : ∀ x ∈ L, x ∈ N
  all : ∀ x ∈ N, x ∈ L ∨ ltN last x
  up : ∀ x ∈ L, x = last ∨ ltN x last
theorem Fnd.nil {N : List Wd} (h : ∀ x ∈ N, x ≠ []) : Fnd N [] [] := ⟨List.Pairwise.nil, by simp, fun x hx => .inr (by
  cases x with
  | nil => exact absurd rfl (h _ hx)
  | cons a t => simp [ltN, Op.bytesLess]), by simp⟩
theorem nodup_len : ∀ {a b : List Wd}, a.Nodup → (∀ x ∈ a, x ∈ b) → a.length ≤ b.length
  | [], _, _, _ => Nat.zero_le _
  | x :: a, b, h, hs => by
    obtain ⟨h1, h2⟩ := List.nodup_cons.1 h
    have hx := hs x (List.mem_cons_self ..)
    have ih := nodup_len (b := b.erase x) h2 fun y hy => (List.mem_erase_of_ne (show y ≠ x from fun e => h1 (e ▸ hy))).2 (hs y (List.mem_cons_of_mem _ hy))
    rw [List.length_erase_of_mem hx] at ih
    have := List.length_pos_of_mem hx
    rw [List.length_cons]; omega
theorem Fnd.next {N L : List Wd} {last least : Wd} (h : Fnd N L last) (hN : N.Nodup) (hl : L.length < N.length) (hL : Lst N last least) : Fnd N (L ++ [least]) least := by
  rcases hL with ⟨-, h2⟩ | ⟨h1, h2, h3⟩
  · exfalso
    have := nodup_len hN (b := L) fun x hx => (h.all x hx).resolve_right (h2 x hx)
    omega
  · have hlt : ∀ x ∈ L, ltN x least := fun x hx => by
      rcases h.up x hx with rfl | hx
      · exact h2
      · exact ltN_trans hx h2
    refine ⟨?_, fun x hx => ?_, fun x hx => ?_, fun x hx => ?_⟩
    · rw [List.pairwise_append]
      exact ⟨h.asc, List.pairwise_singleton _ _, fun x hx y hy => by rw [List.mem_singleton.1 hy]; exact hlt x hx⟩
    · rcases List.mem_append.1 hx with hx | hx
      · exact h.sub x hx
      · rw [List.mem_singleton.1 hx]; exact h1
    · rcases h.all x hx with hx2 | hx2
      · exact .inl (List.mem_append.2 (.inl hx2))
      · rcases h3 x hx hx2 with rfl | h4
        · exact .inl (by simp)
        · exact .inr h4
    · rcases List.mem_append.1 hx with hx | hx
      · exact .inr (hlt x hx)
      · exact .inl (List.mem_singleton.1 hx)
theorem Fnd.done {N L : List Wd} {last : Wd} (h : Fnd N L last) (hN : N.Nodup) (hl : N.length ≤ L.length) : ∀ x, x ∈ L ↔ x ∈ N := by
  intro x
  refine ⟨h.sub x, fun hx => Classical.byContradiction fun hn => ?_⟩
  have hd : (x :: L).Nodup := List.nodup_cons.2 ⟨hn, h.asc.imp fun {a b} hab e => by subst e; exact ltN_irr a hab⟩
  have := nodup_len hd (b := N) fun y hy => by
    rcases List.mem_cons.1 hy with rfl | hy
    · exact hx
    · exact h.sub y hy
  rw [List.length_cons] at this
  omega
theorem nms_next {l : List Zm} {i : Nat} (h : i < l.length) : nms (zos (l.take (i + 1))) = nms (zos (l.take i)) ++ [(l.getD i zm0).nm.data.toList] := by
  rw [zos_take h rfl]; simp [nms, Zm.zo]
theorem less_data (a b : ByteArray) : Op.bytesLess a.toList b.toList = Op.bytesLess a.data.toList b.data.toList := by rw [ByteArray.toList_eq, ByteArray.toList_eq]
theorem isE (a : ByteArray) : a.toList.isEmpty = a.data.toList.isEmpty := by rw [ByteArray.toList_eq]
theorem tsR_own {w : World} {base : Nat} {ty : TypeId} {A : Option Addr} {n c : Nat} {L : List ByteArray} (hown : w.ownsRow base ty 1 (.slice A n c) n (L.map Value.string)) (hn : L.length = n) : TsR w A L := by
  intro k hk
  obtain ⟨A', c', he, -, -, hA⟩ := own_formN hown
  injection he with h1 h2 h3
  obtain ⟨g, rfl, -, hg⟩ := hA (by omega)
  subst h1
  refine ⟨g, 0, rfl, hg, ?_⟩
  rw [Nat.zero_add, World.ownsRow.cellAt hown k (by omega), List.getElem?_map, List.getElem?_eq_getElem hk]
  simp [List.getD_eq_getElem?_getD, List.getElem?_eq_getElem hk]
set_option maxRecDepth 100000 in
set_option maxHeartbeats 8000000 in
theorem refNames_any (A : Option Addr) (n c : Nat) (l : List Zm) (w : World) (hA : ZsR w A l) (hn : l.length = n) (hc : n ≤ c) (hm : c ≤ maxLen) (hf : Fit l) :
    Calls Try.prog 15 #[.slice A n c] w (NmOut (zos l) w) := by
  have HC := Lib.hid (refCheck_any A n c l w hA hn hc hm hf)
  unfold NmOut
  obtain ⟨ev, hev⟩ : ∃ ev, ckZ (zos l) = ev := ⟨_, rfl⟩
  have HEV := Lib.hid hev
  rw [hev] at HC ⊢
  clear hev
  by_cases hz : ev = 0
  · subst hz
    simp only [if_true]
    have hV := ck_vld.1 HEV.out
    have hn64 : n ≤ 64 := by have := hV.len; rw [zos_len, hn] at this; exact this
    have HV := Lib.hid hV; have HA := Lib.hid hA; have HN := Lib.hid hn; have HF := Lib.hid hf
    have HNE := Lib.hid (show ∀ x ∈ nms (zos l), x ≠ [] from fun x hx => by
      obtain ⟨z, hz, rfl⟩ := List.mem_map.1 hx
      exact nmB_ne (hV.ok z hz).1)
    have HNL := Lib.hid (show (nms (zos l)).length = n by unfold nms; rw [List.length_map, zos_len, hn])
    obtain ⟨i0, hi0, hz0, hz1, hz2⟩ := info_parts strInfo
    clear hA hn hf hV hm
    go_enter Try.func15, Try.ntmps15
    go_wp2_with (go_at_call 12; (with_reducible refine HC.out.mono ?_); rintro e w1 ⟨rfl, hb1⟩; have HB1 := Lib.hid hb1; clear hb1)
    go_loopw [3, 4] (fun v lv wr => ∃ (k : Nat) (L : List ByteArray) (A : Option Addr) (c : Nat) (last : ByteArray), v = .slice A k c ∧ lv = .string last ∧ L.length = k ∧ k ≤ n ∧ k ≤ c ∧ c ≤ maxLen ∧ last.size ≤ maxLen ∧ Hid (Below w.heap.size w wr) ∧ Hid (wr.ownsRow w.heap.size 9 1 v k (L.map Value.string)) ∧ Hid (Fnd (nms (zos l)) (L.map fun s => s.data.toList) last.data.toList)) (fun v _ _ => n - (match v with | .slice _ k _ => k | _ => 0))
    case atStart => exact ⟨0, [], none, 0, ⟨#[]⟩, rfl, rfl, rfl, by omega, by omega, by decide, by decide, HB1, Lib.hid (World.ownsRow_nil _ _ _ _), Lib.hid (Fnd.nil HNE.out)⟩
    case round =>
      obtain ⟨k, L, B, d, last, rfl, rfl, hLk, hk, hkd, hdm, hls, HB, HO, HFN⟩ := hrel
      have HLK := Lib.hid hLk
      have hdm' := hdm
      unfold maxLen at hdm'
      clear hLk
      by_cases hlt : k < n
      · have hlt' : (k : Int) < (n : Int) := by omega
        go_wp2_with fail
        go_loopw [5, 6] (fun mv iv w9 => ∃ (i : Nat) (least : ByteArray), mv = .string least ∧ iv = .int .i64 i ∧ i ≤ n ∧ w9 = wr ∧ least.size ≤ maxLen ∧ Hid (Lst (nms (zos (l.take i))) last.data.toList least.data.toList)) (fun _ iv _ => n - (intOf iv).toNat)
        case atStart => exact ⟨0, ⟨#[]⟩, rfl, rfl, by omega, rfl, by decide, Lib.hid (Lst.nil _)⟩
        case round =>
          obtain ⟨i, least, rfl, rfl, hi, rfl, hms, HL⟩ := hrel
          by_cases hil : i < n
          · have hil' : (i : Int) < (n : Int) := by omega
            have hi0 : (0 : Int) ≤ (i : Int) := by omega
            have hill : i < l.length := by rw [HN.out]; exact hil
            obtain ⟨bk, off, P, c2, rfl, hbl, g0, -⟩ := HA.out i hill
            have e0 := (HB.out.cell (p := ⟨bk, off + i * 2, none⟩) hbl).trans g0
            have HX := Lib.hid (nms_next hill)
            have hxs := (HF.out.at hill rfl).2.1
            obtain ⟨x, hx⟩ : ∃ x, (l.getD i zm0).nm = x := ⟨_, rfl⟩
            rw [hx] at e0 HX hxs
            have HXS := Lib.hid hxs
            clear g0 hbl hill hx hxs
            cases c1 : Op.bytesLess last.toList x.toList
            · have HL2 : Hid (Lst (nms (zos (l.take (i + 1)))) last.data.toList least.data.toList) := Lib.hid (by rw [HX.out]; exact HL.out.skip (by unfold ltN; rw [← less_data, c1]; decide))
              have hcs : Op.bytesLess x.toList last.toList = true ∨ (Op.bytesLess x.toList last.toList = false ∧ (x.toList == last.toList) = true) := by
                cases f1 : Op.bytesLess x.toList last.toList with
                | true => exact .inl rfl
                | false =>
                  refine .inr ⟨rfl, ?_⟩
                  cases f2 : (x.toList == last.toList) with
                  | true => rfl
                  | false => rw [less_total _ _ f1 f2] at c1; cases c1
              clear c1
              rcases hcs with f1 | ⟨f1, f2⟩
              all_goals
                go_wp2_with fail
                go_roundw
                case rel => exact ⟨i + 1, least, rfl, by go_num, by omega, by trivial, hms, HL2⟩
                case measure => simp [intOf] <;> omega
            · have hlx : ltN last.data.toList x.data.toList := by unfold ltN; rw [← less_data]; exact c1
              have f1 : Op.bytesLess x.toList last.toList = false := less_asymm _ _ c1
              have f2 : (x.toList == last.toList) = false := by
                rw [beq_eq_false_iff_ne]; intro e; rw [e, less_irrefl] at c1; cases c1
              clear c1
              cases c2 : least.toList.isEmpty
              · have hne : least.data.toList ≠ [] := by
                  rw [isE] at c2
                  intro e; rw [e] at c2; cases c2
                cases c3 : Op.bytesLess x.toList least.toList
                · have HL2 : Hid (Lst (nms (zos (l.take (i + 1)))) last.data.toList least.data.toList) := Lib.hid (by rw [HX.out]; exact HL.out.more hne (by unfold ltN; rw [← less_data, c3]; decide))
                  clear hlx hne
                  go_wp2_with fail
                  go_roundw
                  case rel => exact ⟨i + 1, least, rfl, by go_num, by omega, by trivial, hms, HL2⟩
                  case measure => simp [intOf] <;> omega
                · have HL2 : Hid (Lst (nms (zos (l.take (i + 1)))) last.data.toList x.data.toList) := Lib.hid (by rw [HX.out]; exact HL.out.less hne hlx (by unfold ltN; rw [← less_data]; exact c3))
                  clear hlx hne
                  go_wp2_with fail
                  go_roundw
                  case rel => exact ⟨i + 1, x, rfl, by go_num, by omega, by trivial, HXS.out, HL2⟩
                  case measure => simp [intOf] <;> omega
              · have hem : least.data.toList = [] := by
                  rw [isE] at c2
                  simpa using c2
                have HL2 : Hid (Lst (nms (zos (l.take (i + 1)))) last.data.toList x.data.toList) := Lib.hid (by
                  rw [HX.out]
                  have h := HL.out
                  rw [hem] at h
                  exact h.first hlx)
                clear hlx hem
                go_wp2_with fail
                go_roundw
                case rel => exact ⟨i + 1, x, rfl, by go_num, by omega, by trivial, HXS.out, HL2⟩
                case measure => simp [intOf] <;> omega
          · obtain rfl : i = n := by omega
            have HFN2 : Hid (Fnd (nms (zos l)) ((L ++ [least]).map fun s => s.data.toList) least.data.toList) := Lib.hid (by
              have h := HL.out
              rw [List.take_of_length_le (by rw [HN.out]; exact Nat.le_refl _)] at h
              rw [List.map_append]
              exact HFN.out.next HV.out.nd (by rw [HNL.out, List.length_map, HLK.out]; exact hlt) h)
            go_wp2_with (at_builtin; refine wpList_append_own_at _ rfl (.tmp 46) (.tmp 48) 28 rfl w.heap.size 9 i0 _ 1 16 Try.underlying28 hi0 hz0 hz1 hz2 rfl (by decide) _ _ (L.map Value.string) rfl (HO.out.alloc _) ⟨wr.heap.size, 0, none⟩ 1 1 [.string least] rfl rfl (txt_src (Blk.new wr 9 _)) (by simp [Value.oneCell']) (by unfold maxLen; omega) (by omega) (by have := HB.out.size; simp; omega) ?_; intro v4 w4 g1 g2 _ g3; have HO4 := Lib.hid g1; have HB4 := Lib.hid (below_grown (HB.out.alloc HB.out.size _) g2 (fun j hj => (World.ownsRow.lt HO.out j hj).1) (by have := HB.out.size; simp; omega)); clear g1 g2 g3; obtain ⟨B4, d4, rfl, hd4, hm4, -⟩ := own_formN HO4.out)
            go_roundw
            case rel => exact ⟨k + 1, L ++ [least], B4, d4, least, rfl, rfl, by rw [List.length_append, HLK.out]; rfl, by omega, hd4, hm4, hms, HB4, Lib.hid (by rw [List.map_append]; exact HO4.out), HFN2⟩
            case measure => simp <;> omega
      · obtain rfl : k = n := by omega
        go_wp2_with fail
        go_ret
        have hown := HO.out
        refine ⟨B, d, L, by rw [HLK.out] <;> rfl, by rw [HLK.out]; exact hkd, hdm, tsR_own hown HLK.out, HFN.out.asc, HFN.out.done HV.out.nd (by rw [HNL.out, List.length_map, HLK.out]; exact Nat.le_refl _), by rw [HLK.out, zos_len, HN.out], HB.out⟩
  · simp only [hz, if_false]
    have d0 : (ev == 0) = false := by rw [beq_eq_false_iff_ne]; exact hz
    go_enter Try.func15, Try.ntmps15
    go_wp2_with (go_at_call 12; (with_reducible refine HC.out.mono ?_); rintro e w1 ⟨rfl, hb1⟩)
    go_ret
    exact ⟨rfl, hb1⟩
end Go.Proofs.Ytflonakoagjmhaa.Zn
