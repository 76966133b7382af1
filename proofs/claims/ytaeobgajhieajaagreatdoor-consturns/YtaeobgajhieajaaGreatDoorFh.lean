/-
  What is proved here: fits, of the other constraints.
-/
import Derived.Test.YtaeobgajhieajaaGreatDoorFg
namespace Go.Proofs.YtaeobgajhieajaaGreatDoor
open Go.RowKit Go.Shelf
set_option linter.unusedVariables false
set_option linter.unusedSimpArgs false

def special : List (List UInt8) := [[102, 122, 110, 95, 115, 111, 114, 116], [102, 122, 110, 95, 105, 110, 118, 101, 114, 115, 101], [102, 122, 110, 95, 100, 105, 115, 106, 117, 110, 99, 116, 105, 118, 101], [102, 122, 110, 95, 100, 105, 102, 102, 110], [102, 122, 110, 95, 103, 108, 111, 98, 97, 108, 95, 99, 97, 114, 100, 105, 110, 97, 108, 105, 116, 121], [102, 122, 110, 95, 103, 108, 111, 98, 97, 108, 95, 99, 97, 114, 100, 105, 110, 97, 108, 105, 116, 121, 95, 99, 108, 111, 115, 101, 100], [102, 122, 110, 95, 109, 97, 120, 105, 109, 117, 109, 95, 105, 110, 116], [102, 122, 110, 95, 109, 105, 110, 105, 109, 117, 109, 95, 105, 110, 116], [102, 122, 110, 95, 116, 97, 98, 108, 101, 95, 105, 110, 116], [102, 122, 110, 95, 114, 101, 103, 117, 108, 97, 114], [102, 122, 110, 95, 99, 117, 109, 117, 108, 97, 116, 105, 118, 101], [102, 122, 110, 95, 98, 105, 110, 95, 112, 97, 99, 107, 105, 110, 103], [102, 122, 110, 95, 98, 105, 110, 95, 112, 97, 99, 107, 105, 110, 103, 95, 99, 97, 112, 97], [102, 122, 110, 95, 98, 105, 110, 95, 112, 97, 99, 107, 105, 110, 103, 95, 108, 111, 97, 100], [102, 122, 110, 95, 107, 110, 97, 112, 115, 97, 99, 107]]
theorem rule_other {nm : List UInt8} (h : ∀ x ∈ special, nm ≠ x) : ruleN nm = if Lib.hasPrefix nm [105, 110, 116, 95, 108, 105, 110, 95] || Lib.hasPrefix nm [98, 111, 111, 108, 95, 108, 105, 110, 95] then 9 else 0 := by
  unfold ruleN
  rw [if_neg (h _ (by simp [special]))]
  rw [if_neg (h _ (by simp [special]))]
  rw [if_neg (h _ (by simp [special]))]
  rw [if_neg (h _ (by simp [special]))]
  rw [if_neg (h _ (by simp [special]))]
  rw [if_neg (h _ (by simp [special]))]
  rw [if_neg (h _ (by simp [special]))]
  rw [if_neg (h _ (by simp [special]))]
  rw [if_neg (h _ (by simp [special]))]
  rw [if_neg (h _ (by simp [special]))]
  rw [if_neg (h _ (by simp [special]))]
  rw [if_neg (h _ (by simp [special]))]
  rw [if_neg (h _ (by simp [special]))]
  rw [if_neg (h _ (by simp [special]))]
  rw [if_neg (h _ (by simp [special]))]

set_option maxRecDepth 100000 in
set_option maxHeartbeats 4000000 in
theorem fits_other {B : Nat} {W : World} {a8 : Option Addr} {n8 c8 : Nat} {ags : List Ag} (nm : List UInt8) (h : Sa B W (.slice a8 n8 c8) ags) (hlen : ags.length = n8) (hc : n8 ≤ c8) (hc9 : c8 ≤ 9223372036854775807) (hl : ∀ g ∈ ags, g.l.length ≤ 1000) (hn : ∀ x ∈ special, nm ≠ x)
    (h2 : ruleN nm = 9 → 2 ≤ n8) (hn9 : n8 ≤ 1000) :
    Calls Tryz.prog 51 #[.agg #[.string ⟨nm.toArray⟩, .slice a8 n8 c8]] W fun e w' => e = .returned (.bool (fitsB nm ags)) ∧ Below W.heap.size W w' := by
  have e0 : nm ≠ [102, 122, 110, 95, 115, 111, 114, 116] := hn _ (by simp [special])
  have e1 : nm ≠ [102, 122, 110, 95, 105, 110, 118, 101, 114, 115, 101] := hn _ (by simp [special])
  have e2 : nm ≠ [102, 122, 110, 95, 100, 105, 115, 106, 117, 110, 99, 116, 105, 118, 101] := hn _ (by simp [special])
  have e3 : nm ≠ [102, 122, 110, 95, 100, 105, 102, 102, 110] := hn _ (by simp [special])
  have e4 : nm ≠ [102, 122, 110, 95, 103, 108, 111, 98, 97, 108, 95, 99, 97, 114, 100, 105, 110, 97, 108, 105, 116, 121] := hn _ (by simp [special])
  have e5 : nm ≠ [102, 122, 110, 95, 103, 108, 111, 98, 97, 108, 95, 99, 97, 114, 100, 105, 110, 97, 108, 105, 116, 121, 95, 99, 108, 111, 115, 101, 100] := hn _ (by simp [special])
  have e6 : nm ≠ [102, 122, 110, 95, 109, 97, 120, 105, 109, 117, 109, 95, 105, 110, 116] := hn _ (by simp [special])
  have e7 : nm ≠ [102, 122, 110, 95, 109, 105, 110, 105, 109, 117, 109, 95, 105, 110, 116] := hn _ (by simp [special])
  have e8 : nm ≠ [102, 122, 110, 95, 116, 97, 98, 108, 101, 95, 105, 110, 116] := hn _ (by simp [special])
  have e9 : nm ≠ [102, 122, 110, 95, 114, 101, 103, 117, 108, 97, 114] := hn _ (by simp [special])
  have e10 : nm ≠ [102, 122, 110, 95, 99, 117, 109, 117, 108, 97, 116, 105, 118, 101] := hn _ (by simp [special])
  have e11 : nm ≠ [102, 122, 110, 95, 98, 105, 110, 95, 112, 97, 99, 107, 105, 110, 103] := hn _ (by simp [special])
  have e12 : nm ≠ [102, 122, 110, 95, 98, 105, 110, 95, 112, 97, 99, 107, 105, 110, 103, 95, 99, 97, 112, 97] := hn _ (by simp [special])
  have e13 : nm ≠ [102, 122, 110, 95, 98, 105, 110, 95, 112, 97, 99, 107, 105, 110, 103, 95, 108, 111, 97, 100] := hn _ (by simp [special])
  have e14 : nm ≠ [102, 122, 110, 95, 107, 110, 97, 112, 115, 97, 99, 107] := hn _ (by simp [special])
  have hb0 : (nm == [102, 122, 110, 95, 115, 111, 114, 116]) = false := by simpa using e0
  have ha0 : ((⟨nm.toArray⟩ : ByteArray) == ⟨#[102, 122, 110, 95, 115, 111, 114, 116]⟩) = false := by show (nm.toArray == #[102, 122, 110, 95, 115, 111, 114, 116]) = false; rw [show (#[102, 122, 110, 95, 115, 111, 114, 116] : Array UInt8) = ([102, 122, 110, 95, 115, 111, 114, 116] : List UInt8).toArray from rfl]; simpa using e0
  have hb1 : (nm == [102, 122, 110, 95, 105, 110, 118, 101, 114, 115, 101]) = false := by simpa using e1
  have ha1 : ((⟨nm.toArray⟩ : ByteArray) == ⟨#[102, 122, 110, 95, 105, 110, 118, 101, 114, 115, 101]⟩) = false := by show (nm.toArray == #[102, 122, 110, 95, 105, 110, 118, 101, 114, 115, 101]) = false; rw [show (#[102, 122, 110, 95, 105, 110, 118, 101, 114, 115, 101] : Array UInt8) = ([102, 122, 110, 95, 105, 110, 118, 101, 114, 115, 101] : List UInt8).toArray from rfl]; simpa using e1
  have hb2 : (nm == [102, 122, 110, 95, 100, 105, 115, 106, 117, 110, 99, 116, 105, 118, 101]) = false := by simpa using e2
  have ha2 : ((⟨nm.toArray⟩ : ByteArray) == ⟨#[102, 122, 110, 95, 100, 105, 115, 106, 117, 110, 99, 116, 105, 118, 101]⟩) = false := by show (nm.toArray == #[102, 122, 110, 95, 100, 105, 115, 106, 117, 110, 99, 116, 105, 118, 101]) = false; rw [show (#[102, 122, 110, 95, 100, 105, 115, 106, 117, 110, 99, 116, 105, 118, 101] : Array UInt8) = ([102, 122, 110, 95, 100, 105, 115, 106, 117, 110, 99, 116, 105, 118, 101] : List UInt8).toArray from rfl]; simpa using e2
  have hb3 : (nm == [102, 122, 110, 95, 100, 105, 102, 102, 110]) = false := by simpa using e3
  have ha3 : ((⟨nm.toArray⟩ : ByteArray) == ⟨#[102, 122, 110, 95, 100, 105, 102, 102, 110]⟩) = false := by show (nm.toArray == #[102, 122, 110, 95, 100, 105, 102, 102, 110]) = false; rw [show (#[102, 122, 110, 95, 100, 105, 102, 102, 110] : Array UInt8) = ([102, 122, 110, 95, 100, 105, 102, 102, 110] : List UInt8).toArray from rfl]; simpa using e3
  have hb4 : (nm == [102, 122, 110, 95, 103, 108, 111, 98, 97, 108, 95, 99, 97, 114, 100, 105, 110, 97, 108, 105, 116, 121]) = false := by simpa using e4
  have ha4 : ((⟨nm.toArray⟩ : ByteArray) == ⟨#[102, 122, 110, 95, 103, 108, 111, 98, 97, 108, 95, 99, 97, 114, 100, 105, 110, 97, 108, 105, 116, 121]⟩) = false := by show (nm.toArray == #[102, 122, 110, 95, 103, 108, 111, 98, 97, 108, 95, 99, 97, 114, 100, 105, 110, 97, 108, 105, 116, 121]) = false; rw [show (#[102, 122, 110, 95, 103, 108, 111, 98, 97, 108, 95, 99, 97, 114, 100, 105, 110, 97, 108, 105, 116, 121] : Array UInt8) = ([102, 122, 110, 95, 103, 108, 111, 98, 97, 108, 95, 99, 97, 114, 100, 105, 110, 97, 108, 105, 116, 121] : List UInt8).toArray from rfl]; simpa using e4
  have hb5 : (nm == [102, 122, 110, 95, 103, 108, 111, 98, 97, 108, 95, 99, 97, 114, 100, 105, 110, 97, 108, 105, 116, 121, 95, 99, 108, 111, 115, 101, 100]) = false := by simpa using e5
  have ha5 : ((⟨nm.toArray⟩ : ByteArray) == ⟨#[102, 122, 110, 95, 103, 108, 111, 98, 97, 108, 95, 99, 97, 114, 100, 105, 110, 97, 108, 105, 116, 121, 95, 99, 108, 111, 115, 101, 100]⟩) = false := by show (nm.toArray == #[102, 122, 110, 95, 103, 108, 111, 98, 97, 108, 95, 99, 97, 114, 100, 105, 110, 97, 108, 105, 116, 121, 95, 99, 108, 111, 115, 101, 100]) = false; rw [show (#[102, 122, 110, 95, 103, 108, 111, 98, 97, 108, 95, 99, 97, 114, 100, 105, 110, 97, 108, 105, 116, 121, 95, 99, 108, 111, 115, 101, 100] : Array UInt8) = ([102, 122, 110, 95, 103, 108, 111, 98, 97, 108, 95, 99, 97, 114, 100, 105, 110, 97, 108, 105, 116, 121, 95, 99, 108, 111, 115, 101, 100] : List UInt8).toArray from rfl]; simpa using e5
  have hb6 : (nm == [102, 122, 110, 95, 109, 97, 120, 105, 109, 117, 109, 95, 105, 110, 116]) = false := by simpa using e6
  have ha6 : ((⟨nm.toArray⟩ : ByteArray) == ⟨#[102, 122, 110, 95, 109, 97, 120, 105, 109, 117, 109, 95, 105, 110, 116]⟩) = false := by show (nm.toArray == #[102, 122, 110, 95, 109, 97, 120, 105, 109, 117, 109, 95, 105, 110, 116]) = false; rw [show (#[102, 122, 110, 95, 109, 97, 120, 105, 109, 117, 109, 95, 105, 110, 116] : Array UInt8) = ([102, 122, 110, 95, 109, 97, 120, 105, 109, 117, 109, 95, 105, 110, 116] : List UInt8).toArray from rfl]; simpa using e6
  have hb7 : (nm == [102, 122, 110, 95, 109, 105, 110, 105, 109, 117, 109, 95, 105, 110, 116]) = false := by simpa using e7
  have ha7 : ((⟨nm.toArray⟩ : ByteArray) == ⟨#[102, 122, 110, 95, 109, 105, 110, 105, 109, 117, 109, 95, 105, 110, 116]⟩) = false := by show (nm.toArray == #[102, 122, 110, 95, 109, 105, 110, 105, 109, 117, 109, 95, 105, 110, 116]) = false; rw [show (#[102, 122, 110, 95, 109, 105, 110, 105, 109, 117, 109, 95, 105, 110, 116] : Array UInt8) = ([102, 122, 110, 95, 109, 105, 110, 105, 109, 117, 109, 95, 105, 110, 116] : List UInt8).toArray from rfl]; simpa using e7
  have hb8 : (nm == [102, 122, 110, 95, 116, 97, 98, 108, 101, 95, 105, 110, 116]) = false := by simpa using e8
  have ha8 : ((⟨nm.toArray⟩ : ByteArray) == ⟨#[102, 122, 110, 95, 116, 97, 98, 108, 101, 95, 105, 110, 116]⟩) = false := by show (nm.toArray == #[102, 122, 110, 95, 116, 97, 98, 108, 101, 95, 105, 110, 116]) = false; rw [show (#[102, 122, 110, 95, 116, 97, 98, 108, 101, 95, 105, 110, 116] : Array UInt8) = ([102, 122, 110, 95, 116, 97, 98, 108, 101, 95, 105, 110, 116] : List UInt8).toArray from rfl]; simpa using e8
  have hb9 : (nm == [102, 122, 110, 95, 114, 101, 103, 117, 108, 97, 114]) = false := by simpa using e9
  have ha9 : ((⟨nm.toArray⟩ : ByteArray) == ⟨#[102, 122, 110, 95, 114, 101, 103, 117, 108, 97, 114]⟩) = false := by show (nm.toArray == #[102, 122, 110, 95, 114, 101, 103, 117, 108, 97, 114]) = false; rw [show (#[102, 122, 110, 95, 114, 101, 103, 117, 108, 97, 114] : Array UInt8) = ([102, 122, 110, 95, 114, 101, 103, 117, 108, 97, 114] : List UInt8).toArray from rfl]; simpa using e9
  have hb10 : (nm == [102, 122, 110, 95, 99, 117, 109, 117, 108, 97, 116, 105, 118, 101]) = false := by simpa using e10
  have ha10 : ((⟨nm.toArray⟩ : ByteArray) == ⟨#[102, 122, 110, 95, 99, 117, 109, 117, 108, 97, 116, 105, 118, 101]⟩) = false := by show (nm.toArray == #[102, 122, 110, 95, 99, 117, 109, 117, 108, 97, 116, 105, 118, 101]) = false; rw [show (#[102, 122, 110, 95, 99, 117, 109, 117, 108, 97, 116, 105, 118, 101] : Array UInt8) = ([102, 122, 110, 95, 99, 117, 109, 117, 108, 97, 116, 105, 118, 101] : List UInt8).toArray from rfl]; simpa using e10
  have hb11 : (nm == [102, 122, 110, 95, 98, 105, 110, 95, 112, 97, 99, 107, 105, 110, 103]) = false := by simpa using e11
  have ha11 : ((⟨nm.toArray⟩ : ByteArray) == ⟨#[102, 122, 110, 95, 98, 105, 110, 95, 112, 97, 99, 107, 105, 110, 103]⟩) = false := by show (nm.toArray == #[102, 122, 110, 95, 98, 105, 110, 95, 112, 97, 99, 107, 105, 110, 103]) = false; rw [show (#[102, 122, 110, 95, 98, 105, 110, 95, 112, 97, 99, 107, 105, 110, 103] : Array UInt8) = ([102, 122, 110, 95, 98, 105, 110, 95, 112, 97, 99, 107, 105, 110, 103] : List UInt8).toArray from rfl]; simpa using e11
  have hb12 : (nm == [102, 122, 110, 95, 98, 105, 110, 95, 112, 97, 99, 107, 105, 110, 103, 95, 99, 97, 112, 97]) = false := by simpa using e12
  have ha12 : ((⟨nm.toArray⟩ : ByteArray) == ⟨#[102, 122, 110, 95, 98, 105, 110, 95, 112, 97, 99, 107, 105, 110, 103, 95, 99, 97, 112, 97]⟩) = false := by show (nm.toArray == #[102, 122, 110, 95, 98, 105, 110, 95, 112, 97, 99, 107, 105, 110, 103, 95, 99, 97, 112, 97]) = false; rw [show (#[102, 122, 110, 95, 98, 105, 110, 95, 112, 97, 99, 107, 105, 110, 103, 95, 99, 97, 112, 97] : Array UInt8) = ([102, 122, 110, 95, 98, 105, 110, 95, 112, 97, 99, 107, 105, 110, 103, 95, 99, 97, 112, 97] : List UInt8).toArray from rfl]; simpa using e12
  have hb13 : (nm == [102, 122, 110, 95, 98, 105, 110, 95, 112, 97, 99, 107, 105, 110, 103, 95, 108, 111, 97, 100]) = false := by simpa using e13
  have ha13 : ((⟨nm.toArray⟩ : ByteArray) == ⟨#[102, 122, 110, 95, 98, 105, 110, 95, 112, 97, 99, 107, 105, 110, 103, 95, 108, 111, 97, 100]⟩) = false := by show (nm.toArray == #[102, 122, 110, 95, 98, 105, 110, 95, 112, 97, 99, 107, 105, 110, 103, 95, 108, 111, 97, 100]) = false; rw [show (#[102, 122, 110, 95, 98, 105, 110, 95, 112, 97, 99, 107, 105, 110, 103, 95, 108, 111, 97, 100] : Array UInt8) = ([102, 122, 110, 95, 98, 105, 110, 95, 112, 97, 99, 107, 105, 110, 103, 95, 108, 111, 97, 100] : List UInt8).toArray from rfl]; simpa using e13
  have hb14 : (nm == [102, 122, 110, 95, 107, 110, 97, 112, 115, 97, 99, 107]) = false := by simpa using e14
  have ha14 : ((⟨nm.toArray⟩ : ByteArray) == ⟨#[102, 122, 110, 95, 107, 110, 97, 112, 115, 97, 99, 107]⟩) = false := by show (nm.toArray == #[102, 122, 110, 95, 107, 110, 97, 112, 115, 97, 99, 107]) = false; rw [show (#[102, 122, 110, 95, 107, 110, 97, 112, 115, 97, 99, 107] : Array UInt8) = ([102, 122, 110, 95, 107, 110, 97, 112, 115, 97, 99, 107] : List UInt8).toArray from rfl]; simpa using e14
  have HRU : Hid (ruleN nm = if Lib.hasPrefix nm [105, 110, 116, 95, 108, 105, 110, 95] || Lib.hasPrefix nm [98, 111, 111, 108, 95, 108, 105, 110, 95] then 9 else 0) := rule_other hn
  clear hn e0 e1 e2 e3 e4 e5 e6 e7 e8 e9 e10 e11 e12 e13 e14
  have HE : Hid (fitsB nm ags = if Lib.hasPrefix nm [105, 110, 116, 95, 108, 105, 110, 95] || Lib.hasPrefix nm [98, 111, 111, 108, 95, 108, 105, 110, 95] then manyB (ags.take 2) else true) := by
    show fitsB nm ags = _
    unfold fitsB
    rw [HRU.out]
    by_cases hq : (Lib.hasPrefix nm [105, 110, 116, 95, 108, 105, 110, 95] || Lib.hasPrefix nm [98, 111, 111, 108, 95, 108, 105, 110, 95]) = true
    · rw [if_pos hq, if_pos hq]; rfl
    · rw [if_neg hq, if_neg hq]; rfl
  obtain ⟨p1, hp1⟩ : ∃ x, Lib.hasPrefix nm [105, 110, 116, 95, 108, 105, 110, 95] = x := ⟨_, rfl⟩
  obtain ⟨p2, hp2⟩ : ∃ x, Lib.hasPrefix nm [98, 111, 111, 108, 95, 108, 105, 110, 95] = x := ⟨_, rfl⟩
  have kP : ∀ X, Calls Tryz.prog 68 #[.string ⟨nm.toArray⟩, .string ⟨#[105, 110, 116, 95, 108, 105, 110, 95]⟩] X fun e w' => e = .returned (.bool p1) ∧ w' = X := fun X => (Any.strings_HasPrefix Tryz.laysHasPrefix68 ⟨nm.toArray⟩ ⟨#[105, 110, 116, 95, 108, 105, 110, 95]⟩ X).mono fun e w' ⟨he, hw⟩ => ⟨by rw [he]; have : Lib.hasPrefix nm [105, 110, 116, 95, 108, 105, 110, 95] = p1 := hp1; rw [← this], hw⟩
  have kQ : ∀ X, Calls Tryz.prog 68 #[.string ⟨nm.toArray⟩, .string ⟨#[98, 111, 111, 108, 95, 108, 105, 110, 95]⟩] X fun e w' => e = .returned (.bool p2) ∧ w' = X := fun X => (Any.strings_HasPrefix Tryz.laysHasPrefix68 ⟨nm.toArray⟩ ⟨#[98, 111, 111, 108, 95, 108, 105, 110, 95]⟩ X).mono fun e w' ⟨he, hw⟩ => ⟨by rw [he]; have : Lib.hasPrefix nm [98, 111, 111, 108, 95, 108, 105, 110, 95] = p2 := hp2; rw [← this], hw⟩
  have hbA : Below W.heap.size W (W.alloc (Obj.cells #[.string ⟨nm.toArray⟩, .slice a8 n8 c8] 32)) := (Below.refl _ W).alloc (Nat.le_refl _) _
  have HBA : Hid _ := hbA
  have H2 : Hid ((p1 || p2) = true → 2 ≤ n8) := fun hp => h2 (by rw [HRU.out, hp1, hp2, if_pos hp])
  have kM : 2 ≤ n8 → Calls Tryz.prog 73 #[.slice a8 2 c8] (W.alloc (Obj.cells #[.string ⟨nm.toArray⟩, .slice a8 n8 c8] 32)) fun e w' => e = .returned (.bool (manyB (ags.take 2))) ∧ Below (W.alloc (Obj.cells #[.string ⟨nm.toArray⟩, .slice a8 n8 c8] 32)).heap.size (W.alloc (Obj.cells #[.string ⟨nm.toArray⟩, .slice a8 n8 c8] 32)) w' := fun h9 => asManyG ((h.below hbA).take (k := 2) (by omega)) (by rw [List.length_take]; omega) (by omega) (fun g hg => by have := hl g (List.mem_of_mem_take hg); omega)
  have ha8 : 2 ≤ n8 → ∃ b off, a8 = some ⟨b, off, none⟩ := fun h9 => by
    obtain ⟨b, off, _, _, e, _⟩ := h.at (agAt_some (i := 0) (by omega))
    exact ⟨b, off, e⟩
  rw [hp1, hp2] at HE
  obtain ⟨rr, hrr⟩ : ∃ rr, fitsB nm ags = rr := ⟨_, rfl⟩
  rw [hrr] at HE ⊢
  have KM : Hid _ := kM
  have HA8 : Hid _ := ha8
  clear hp1 hp2 hbA h hl h2 kM ha8 hrr HRU hlen
  by_cases hpp : (p1 || p2) = true
  · obtain ⟨b, off, rfl⟩ := HA8.out (H2.out hpp)
    have kM := KM.out (H2.out hpp)
    have hq1 : (2 : Int) ≤ c8 := by have := H2.out hpp; omega
    rw [if_pos hpp] at HE
    rw [← HE.out] at kM
    cases p1 with
    | true =>
      go_enter Tryz.func51, Tryz.ntmps51
      go_wp2_with fail
      refine (kP _).mono ?_
      rintro e w1 ⟨rfl, rfl⟩
      go_wp2_with fail
      refine kM.mono ?_
      rintro e w2 ⟨rfl, hb2⟩
      have HB2 : Hid (Below W.heap.size W w2) := HBA.out.trans (hb2.mono (by simp))
      clear hb2
      go_wp2
      go_ret
      exact ⟨rfl, HB2.out⟩
    | false =>
      cases p2 with
      | false => simp at hpp
      | true =>
        go_enter Tryz.func51, Tryz.ntmps51
        go_wp2_with fail
        refine (kP _).mono ?_
        rintro e w1 ⟨rfl, rfl⟩
        go_wp2_with fail
        refine (kQ _).mono ?_
        rintro e w1 ⟨rfl, rfl⟩
        go_wp2_with fail
        refine kM.mono ?_
        rintro e w2 ⟨rfl, hb2⟩
        have HB2 : Hid (Below W.heap.size W w2) := HBA.out.trans (hb2.mono (by simp))
        clear hb2
        go_wp2
        go_ret
        exact ⟨rfl, HB2.out⟩
  · rw [if_neg hpp] at HE
    cases p1 with
    | true => simp at hpp
    | false =>
      cases p2 with
      | true => simp at hpp
      | false =>
        go_enter Tryz.func51, Tryz.ntmps51
        go_wp2_with fail
        refine (kP _).mono ?_
        rintro e w1 ⟨rfl, rfl⟩
        go_wp2_with fail
        refine (kQ _).mono ?_
        rintro e w1 ⟨rfl, rfl⟩
        go_wp2
        go_ret
        exact ⟨by rw [HE.out]; rfl, HBA.out⟩
end Go.Proofs.YtaeobgajhieajaaGreatDoor
