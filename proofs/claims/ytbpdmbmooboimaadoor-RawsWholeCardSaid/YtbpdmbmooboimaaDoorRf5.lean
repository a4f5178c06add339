/- lazaretlaw09.finds, refers. -/
import Derived.Test.YtbpdmbmooboimaaDoorRf4
set_option linter.unusedVariables false
set_option linter.unusedSimpArgs false
namespace Go.Proofs.YtbpdmbmooboimaaDoor.R9
open Go.RowKit

set_option maxRecDepth 1000000 in
theorem rx0 : ret3 0 (findS [38, 97, 109, 112, 59, 120] true) = .tuple #[.string ⟨#[38]⟩, .int .i64 5, .bool true] := by kernel_rfl
set_option maxRecDepth 1000000 in
theorem rx1 : ret3 0 (findS [38, 97, 109, 112, 120] false) = .tuple #[.string ⟨#[38]⟩, .int .i64 4, .bool true] := by kernel_rfl
set_option maxRecDepth 1000000 in
theorem rx2 : ret3 0 (findS [38, 97, 109, 112, 120] true) = .tuple #[.string ⟨#[]⟩, .int .i64 0, .bool false] := by kernel_rfl
set_option maxRecDepth 1000000 in
theorem rx3 : ret3 0 (findS [38, 110, 111, 116, 105, 110, 59] false) = .tuple #[.string ⟨#[226, 136, 137]⟩, .int .i64 7, .bool true] := by kernel_rfl
set_option maxRecDepth 1000000 in
theorem rx4 : ret3 0 (findS [38, 110, 111, 116, 105, 116, 59] false) = .tuple #[.string ⟨#[194, 172]⟩, .int .i64 4, .bool true] := by kernel_rfl
set_option maxRecDepth 1000000 in
theorem rx5 : ret3 0 (findS [38, 110, 111, 116, 105, 110] false) = .tuple #[.string ⟨#[194, 172]⟩, .int .i64 4, .bool true] := by kernel_rfl
set_option maxRecDepth 1000000 in
theorem rx6 : ret3 0 (findS [38, 104, 101, 108, 108, 105, 112] false) = .tuple #[.string ⟨#[]⟩, .int .i64 0, .bool false] := by kernel_rfl
set_option maxRecDepth 1000000 in
theorem rx7 : ret3 0 (findS [38, 35, 54, 53, 59, 98] false) = .tuple #[.string ⟨#[65]⟩, .int .i64 5, .bool true] := by kernel_rfl
set_option maxRecDepth 1000000 in
theorem rx8 : ret3 0 (findS [38, 35, 120, 52, 49, 103] true) = .tuple #[.string ⟨#[65]⟩, .int .i64 5, .bool true] := by kernel_rfl
set_option maxRecDepth 1000000 in
theorem rx9 : ret3 0 (findS [38, 35, 48] false) = .tuple #[.string ⟨#[239, 191, 189]⟩, .int .i64 3, .bool true] := by kernel_rfl
set_option maxRecDepth 1000000 in
theorem rx10 : ret3 0 (findS [38, 35, 120, 56, 48] false) = .tuple #[.string ⟨#[226, 130, 172]⟩, .int .i64 5, .bool true] := by kernel_rfl
set_option maxRecDepth 1000000 in
theorem rx11 : ret3 0 (findS [38, 35, 120, 68, 56, 48, 48, 59] false) = .tuple #[.string ⟨#[239, 191, 189]⟩, .int .i64 8, .bool true] := by kernel_rfl
set_option maxRecDepth 1000000 in
theorem rx12 : ret3 0 (findS [38, 35] false) = .tuple #[.string ⟨#[]⟩, .int .i64 0, .bool false] := by kernel_rfl
set_option maxRecDepth 1000000 in
theorem rx13 : ret3 0 (findS [38, 35, 120] false) = .tuple #[.string ⟨#[]⟩, .int .i64 0, .bool false] := by kernel_rfl
set_option maxRecDepth 1000000 in
theorem rx14 : ret3 0 (findS [97] false) = .tuple #[.string ⟨#[]⟩, .int .i64 0, .bool false] := by kernel_rfl
end Go.Proofs.YtbpdmbmooboimaaDoor.R9
