/- Walk: the stable sort of places. -/
import Derived.Test.YtopngdjhnljmfaaDoorStW3
import Derived.Test.YtopngdjhnljmfaaDoorStW4
import Derived.Test.YtopngdjhnljmfaaDoorStB
namespace Go.Proofs.YtopngdjhnljmfaaDoor.St
open Go.RowKit

theorem sp_of {r : Int → Int} {lo hi : Nat} {C T : List Int} (hp : C.Perm T) (hs : Srt r C) (ht : T.Perm (rg lo hi)) : SP r lo hi C := ⟨hp.trans ht, hs⟩
set_option maxRecDepth 100000 in
set_option maxHeartbeats 16000000 in
theorem stable_any (g gb n cap : Nat) (r : Int → Int) (w0 W : World) (HC : CloOK w0 g gb n r) (h : SR w0 g (rg 0 n) W) (hsz : n ≤ 200000) :
    Calls Tryd.prog 38 #[.slice (some ⟨g, 0, none⟩) n cap, .int .i64 (n : Int), fnv gb] W fun e w' => e = .returned (.tuple #[]) ∧ ∃ C, SP r 0 n C ∧ SR w0 g C w' := by
  have H := Lib.hid h; have HCl := Lib.hid HC
  clear h HC
  go_enter Tryd.func38, Tryd.ntmps38
  go_wp2
  go_loopw [7, 8] (fun av bv wr => ∃ (k a : Nat) (Q : List Int), av = .int .i64 a ∧ bv = .int .i64 ((a : Int) + 20) ∧ a ≤ n ∧ Hid (FB r 20 k 0 a Q) ∧ Hid (SR w0 g (Q ++ rg a n) wr)) (fun av _ _ => ((n : Int) - intOf av).toNat)
  case atStart => exact ⟨0, 0, [], rfl, rfl, by omega, Lib.hid ⟨rfl, rfl⟩, H⟩
  case round =>
    clear H
    obtain ⟨k, a, Q, rfl, rfl, han, HF, HS⟩ := hrel
    have hle := HF.out.le
    by_cases hlt : a + 20 ≤ n
    · have hlt' : (a : Int) + 20 ≤ (n : Int) := by omega
      have HI := Lib.hid (ins_any g gb n n cap a (a + 20) r Q (rg a (a + 20)) (rg (a + 20) n) w0 wr HCl.out (by have := HS.out; rw [rg_split (show a ≤ a + 20 by omega) hlt] at this; simpa using this) (by omega) (by rw [rg_length]; omega) (by rw [rg_length]; omega) (by omega) (rg_asc _ _) (fun x hx => by have := rg_mem.1 hx; omega))
      have e1 : ((a + 20 : Nat) : Int) = (a : Int) + 20 := by omega
      rw [e1] at HI
      clear e1 hle
      go_wp2_with (go_at_call 42; (with_reducible refine HI.out.mono ?_); rintro e w2 ⟨rfl, C, p, s, h2⟩; have HSP := Lib.hid (sp_of p s (List.Perm.refl _)); have H2 := Lib.hid h2; clear p s h2)
      go_roundw
      case rel => exact ⟨k + 1, a + 20, Q ++ C, by go_num, by congr 1, hlt, Lib.hid (HF.out.snoc HSP.out), H2⟩
      case measure => simp [intOf]; omega
    · have hlt' : ¬ (a : Int) + 20 ≤ (n : Int) := by omega
      have HI := Lib.hid (ins_any g gb n n cap a n r Q (rg a n) [] w0 wr HCl.out (by simpa using HS.out) (by omega) (by rw [rg_length]; omega) (by simp) (by omega) (rg_asc _ _) (fun x hx => by have := rg_mem.1 hx; omega))
      have HF1 := Lib.hid (show a ≤ n ∧ n < a + 20 by omega)
      clear hle
      go_wp2_with (go_at_call 42; (with_reducible refine HI.out.mono ?_); rintro e w2 ⟨rfl, C, p, s, h2⟩; have HSP := Lib.hid (sp_of p s (List.Perm.refl _)); have H2 := Lib.hid h2; clear p s h2)
      clear hlt' hlt han
      go_loopw [6] (fun bv wx => ∃ (bs k p : Nat) (Q Z : List Int), bv = .int .i64 bs ∧ 0 < bs ∧ bs ≤ 400000 ∧ p ≤ n ∧ n < p + bs ∧ Hid (FB r bs k 0 p Q) ∧ Hid (SP r p n Z) ∧ Hid (SR w0 g (Q ++ Z) wx)) (fun bv _ => ((n : Int) - intOf bv).toNat)
      case atStart => exact ⟨20, k, a, Q, C, rfl, by omega, by omega, HF1.out.1, HF1.out.2, HF, HSP, Lib.hid (by simpa using H2.out)⟩
      case round =>
        clear HF HF1 HSP H2 HI HS
        obtain ⟨bs, k, p, Q, Z, rfl, hb0, hb1, hpn, hnp, HF, HZ, HS⟩ := hrel
        by_cases hbn : bs < n
        · have hbn' : (bs : Int) < (n : Int) := by omega
          go_wp2
          go_loopw [7, 8] (fun av bv wx => ∃ (a bN t k' : Nat) (Q1 Q2 : List Int), av = .int .i64 a ∧ bv = .int .i64 bN ∧ a + 2 * bs ≤ bN ∧ bN ≤ a + 2 * bs ∧ a ≤ p ∧ Hid (FB r (2 * bs) t 0 a Q1) ∧ Hid (FB r bs k' a p Q2) ∧ Hid (SR w0 g (Q1 ++ Q2 ++ Z) wx)) (fun av _ _ => ((n : Int) - intOf av).toNat)
          case atStart => exact ⟨0, 2 * bs, 0, k, [], Q, rfl, by congr 1, by omega, by omega, by omega, Lib.hid ⟨rfl, rfl⟩, HF, Lib.hid (by simpa using HS.out)⟩
          case round =>
            clear HF HS
            obtain ⟨a, bN, t, k', Q1, Q2, rfl, rfl, hN1, hN2, hap, HF1, HF2, HS⟩ := hrel
            have hl1 := HF1.out.le
            have hl2 := HF2.out.le
            have hl3 := HZ.out.length
            by_cases hbn2 : bN ≤ n
            · have hc : (bN : Int) ≤ (n : Int) := by omega
              obtain ⟨k2, l1, l2, l3, hQ2, s1, s2, f3⟩ : ∃ (k2 : Nat) (l1 l2 l3 : List Int), Q2 = l1 ++ (l2 ++ l3) ∧ SP r a (a + bs) l1 ∧ SP r (a + bs) (a + bs + bs) l2 ∧ FB r bs k2 (a + bs + bs) p l3 := by
                have f := HF2.out
                match k', f with
                | 0, ⟨h1, h2⟩ => omega
                | 1, ⟨l1, l2, h1, h2, h3, h4⟩ => omega
                | k2 + 2, ⟨l1, l2, h1, h2, l3, l4, h3, h4, h5⟩ => exact ⟨k2, l1, l3, l4, by rw [h1, h3], h2, h4, h5⟩
              have n1 := s1.length
              have n2 := s2.length
              have n3 := f3.le
              have hbNe : bN = a + bs + bs := by omega
              have HI := Lib.hid (sym_any (l1.length + l2.length) g gb n n cap a (a + bs) bN r Q1 l1 l2 (l3 ++ Z) w0 wr (Nat.le_refl _) (by omega) (by omega) HCl.out (by have := HS.out; rw [hQ2] at this; simpa using this) (by omega) (by omega) (by omega)
                (by rw [List.length_append]; omega) (by omega) s1.2 s2.2 (fun x hx y hy => by have := s1.mem hx; have := s2.mem hy; omega) (fun x hx => by
                  rcases List.mem_append.1 hx with hx | hx
                  · have := s1.mem hx; omega
                  · have := s2.mem hx; omega))
              have HJ : Hid (∀ C : List Int, C.Perm (l1 ++ l2) → Srt r C → FB r (2 * bs) (t + 1) 0 (a + 2 * bs) (Q1 ++ C)) := Lib.hid (fun C hp hs => HF1.out.snoc (by
                have := s1.join s2 (by omega) (by omega) hp hs
                rwa [show a + bs + bs = a + 2 * bs by omega] at this))
              have HF3 : Hid (FB r bs k2 (a + 2 * bs) p l3) := Lib.hid (by rw [show a + 2 * bs = a + bs + bs by omega]; exact f3)
              have e1 : ((a + bs : Nat) : Int) = (a : Int) + (bs : Int) := by omega
              rw [e1] at HI
              have hap2 : a + 2 * bs ≤ p := by omega
              clear e1 hl1 hl2 hl3 hQ2 s1 s2 f3 n1 n2 n3 hbNe
              go_wp2_with (go_at_call 43; (with_reducible refine HI.out.mono ?_); rintro e w2 ⟨rfl, C, hp, hs, h2⟩; have HJ2 := Lib.hid (HJ.out C hp hs); have H2 := Lib.hid h2; clear hp hs h2)
              go_roundw
              case rel => exact ⟨a + 2 * bs, bN + 2 * bs, t + 1, k2, Q1 ++ C, l3, by congr 1; omega, by congr 1, by omega, by omega, hap2, HJ2, HF3, Lib.hid (by simpa using H2.out)⟩
              case measure => simp [intOf]; omega
            · have hc : ¬ (bN : Int) ≤ (n : Int) := by omega
              have hk : (k' = 0 ∧ a = p ∧ Q2 = []) ∨ (p = a + bs ∧ SP r a (a + bs) Q2) := by
                have f := HF2.out
                match k', f with
                | 0, ⟨h1, h2⟩ => exact .inl ⟨rfl, h1, h2⟩
                | 1, ⟨l1, l2, h1, h2, h3, h4⟩ =>
                  subst h4
                  exact .inr ⟨by omega, by rw [h1, List.append_nil]; exact h2⟩
                | k2 + 2, ⟨l1, l2, h1, h2, l3, l4, h3, h4, h5⟩ =>
                  have := h5.le
                  omega
              by_cases hm : a + bs < n
              · have hm' : (a : Int) + (bs : Int) < (n : Int) := by omega
                obtain ⟨h1, s1⟩ : p = a + bs ∧ SP r a (a + bs) Q2 := by
                  rcases hk with ⟨_, h, _⟩ | h
                  · omega
                  · exact h
                have z1 : SP r (a + bs) n Z := by rw [← h1]; exact HZ.out
                have n1 := s1.length
                have HI := Lib.hid (sym_any (Q2.length + Z.length) g gb n n cap a (a + bs) n r Q1 Q2 Z [] w0 wr (Nat.le_refl _) (by omega) (by omega) HCl.out (by simpa using HS.out) (by omega) (by omega) (by omega)
                  (by simp) (by omega) s1.2 z1.2 (fun x hx y hy => by have := s1.mem hx; have := z1.mem hy; omega) (fun x hx => by
                    rcases List.mem_append.1 hx with hx | hx
                    · have := s1.mem hx; omega
                    · have := z1.mem hx; omega))
                have HJ : Hid (∀ C : List Int, C.Perm (Q2 ++ Z) → Srt r C → SP r a n C) := Lib.hid (fun C hp hs => s1.join z1 (by omega) (by omega) hp hs)
                have e1 : ((a + bs : Nat) : Int) = (a : Int) + (bs : Int) := by omega
                rw [e1] at HI
                clear e1 hl1 hl2 hl3 s1 z1 n1 hk h1
                go_wp2_with (go_at_call 43; (with_reducible refine HI.out.mono ?_); rintro e w2 ⟨rfl, C, hp, hs, h2⟩; have HJ2 := Lib.hid (HJ.out C hp hs); have H2 := Lib.hid h2; clear hp hs h2)
                go_roundw
                case rel => exact ⟨2 * bs, t, a, Q1, C, by congr 1; omega, by omega, by omega, by omega, by omega, HF1, HJ2, Lib.hid (by simpa using H2.out)⟩
                case measure => simp [intOf]; omega
              · have hm' : ¬ (a : Int) + (bs : Int) < (n : Int) := by omega
                have HJ : Hid (SP r a n (Q2 ++ Z)) := Lib.hid (by
                  rcases hk with ⟨_, h, h2⟩ | ⟨h, s1⟩
                  · rw [h2, h]; exact HZ.out
                  · have e : p = n := by omega
                    have hz0 : Z = [] := List.length_eq_zero_iff.1 (by omega)
                    rw [hz0, List.append_nil, ← e, h]; exact s1)
                clear hl1 hl2 hl3 hk
                go_wp2_with fail
                go_roundw
                case rel => exact ⟨2 * bs, t, a, Q1, Q2 ++ Z, by congr 1; omega, by omega, by omega, by omega, by omega, HF1, HJ, Lib.hid (by simpa using HS.out)⟩
                case measure => simp [intOf]; omega
        · have hbn' : ¬ (bs : Int) < (n : Int) := by omega
          have HA := Lib.hid (HF.out.all HZ.out hpn hnp (by omega))
          go_wp2
          go_end0
          exact ⟨rfl, _, HA.out, HS.out⟩
end Go.Proofs.YtopngdjhnljmfaaDoor.St
