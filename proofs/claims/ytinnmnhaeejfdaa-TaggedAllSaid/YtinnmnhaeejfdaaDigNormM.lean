/- Plain facts on the international form of a number. -/
import Derived.Test.YtinnmnhaeejfdaaDigM
import Derived.Test.YtinnmnhaeejfdaaDigMaskM
namespace Go.Proofs.Ytinnmnhaeejfdaa
open Go.RowKit

/-- The first rule that fits the beginning of s. -/
def internL (s c : List UInt8) : List UInt8 :=
  if Lib.hasPrefix s [43] then s.tail else if Lib.hasPrefix s [48, 48] then s.drop 2 else if Lib.hasPrefix s [48] then c ++ s.tail else s
/-- The international form and the error. -/
def normL (s c : List UInt8) : List UInt8 := if numB c && numB (internL s c) then internL s c else []
def normE (s c : List UInt8) : Int := if numB c && numB (internL s c) then 0 else 12
theorem trim_hit {s p : List UInt8} (h : Lib.hasPrefix s p = true) : Lib.trimPrefix s p = s.drop p.length := by simp [Lib.trimPrefix, h]
theorem intern_plus {s c : List UInt8} (h : Lib.hasPrefix s [43] = true) : internL s c = s.tail := by simp [internL, h]
theorem intern_00 {s c : List UInt8} (h : Lib.hasPrefix s [43] = false) (h2 : Lib.hasPrefix s [48, 48] = true) : internL s c = s.drop 2 := by simp [internL, h, h2]
theorem intern_0 {s c : List UInt8} (h : Lib.hasPrefix s [43] = false) (h2 : Lib.hasPrefix s [48, 48] = false) (h3 : Lib.hasPrefix s [48] = true) : internL s c = c ++ s.tail := by simp [internL, h, h2, h3]
theorem intern_else {s c : List UInt8} (h : Lib.hasPrefix s [43] = false) (h2 : Lib.hasPrefix s [48, 48] = false) (h3 : Lib.hasPrefix s [48] = false) : internL s c = s := by simp [internL, h, h2, h3]
theorem hasPrefix_len {s p : List UInt8} (h : Lib.hasPrefix s p = true) : p.length ≤ s.length := by
  have := Lib.hasPrefix_of_take s p
  rw [h] at this
  simp at this
  exact this.1
theorem hasPrefix_size {s : ByteArray} {p : List UInt8} (h : Lib.hasPrefix s.data.toList p = true) : p.length ≤ s.size := by
  have := hasPrefix_len h
  rwa [len_data] at this
theorem slice_from {P : Program} (w : World) (t : TypeId) (s : ByteArray) (k : Nat) (h : P.underlying t = some .string) (hk : k ≤ s.size) :
    (Instr.slice t (.string s) (some (.int .i64 (k : Int))) none none).run P w = .ok (.string (S (s.data.toList.drop k))) w := by
  have e : S (s.data.toList.drop k) = s.extract k s.size := by rw [← Lib.extract_to_end, S_of]
  rw [e, run_slice_string_l w t s h .i64 (k : Int) (by omega) (by omega)]
  simp
theorem ext1 (s : ByteArray) : s.extract 1 s.size = S s.data.toList.tail := by rw [← List.drop_one, ← Lib.extract_to_end, S_of]
theorem ext2 (s : ByteArray) : s.extract 2 s.size = S (s.data.toList.drop 2) := by rw [← Lib.extract_to_end, S_of]
theorem normL_no {s c : List UInt8} (h : numB c = false) : normL s c = [] ∧ normE s c = 12 := by simp [normL, normE, h]
theorem normL_bad {s c r : List UInt8} (h : internL s c = r) (h2 : numB r = false) : normL s c = [] ∧ normE s c = 12 := by subst h; simp [normL, normE, h2]
theorem normL_ok {s c r : List UInt8} (h : internL s c = r) (h2 : numB c = true) (h3 : numB r = true) : normL s c = r ∧ normE s c = 0 := by subst h; simp [normL, normE, h2, h3]
theorem intern_length (s c : List UInt8) : (internL s c).length ≤ c.length + s.length := by
  unfold internL; split <;> (try split) <;> (try split) <;> simp <;> omega
theorem ret_pair {a b : ByteArray} {k : IntKind} {x y : Int} (h : a = b) (h2 : x = y) : Ending.returned (.tuple #[.string a, .int k x]) = .returned (.tuple #[.string b, .int k y]) := by rw [h, h2]
end Go.Proofs.Ytinnmnhaeejfdaa
